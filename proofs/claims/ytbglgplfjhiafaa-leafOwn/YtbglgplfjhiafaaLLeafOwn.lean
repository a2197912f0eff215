/-
  What is answered shares nothing with what was handed in. Conditions: none.
-/
import Derived.Test.YtbglgplfjhiafaaIAlive
import Derived.Test.YtbglgplfjhiafaaIFrame
import Derived.Test.YtbglgplfjhiafaaJDec
import Derived.Test.YtbglgplfjhiafaaIDec
import Derived.Test.YtbglgplfjhiafaaBSame
import Derived.Test.YtbglgplfjhiafaaBCopy
import Derived.Test.YtbglgplfjhiafaaRBytes
import Derived.Test.YtbglgplfjhiafaaBSpoil
namespace Go.Proofs.Ytbglgplfjhiafaa
open Go.ChangeShapes Go.WideShapes Go.ChangeAt Go.RowKit
set_option linter.unusedVariables false

theorem Lf.decodeN_len (b : List UInt8) : (Lf.decodeN b).1.length ≤ 3 ∧ (Lf.decodeN b).2.length ≤ 4 := by
  by_cases h : Lf.decodeE b = 0
  · have h1 := Lf.ok_iff.1 (Lf.enc_decode h).1
    have h2 := h1.few
    have h3 := h1.kids
    refine ⟨h2, ?_⟩
    rcases h3 with h3 | h3
    · rw [Lf.leaf_iff] at h3; omega
    · omega
  · rw [show Lf.decodeN b = ([], []) from if_neg h]
    simp

theorem owns_keepB {w w' : World} {base n e s : Nat} {v : Value} {xs : List Value} (h : w.ownsRow base e s v n xs) (hk : ∀ b, base ≤ b → b < w.heap.size → w'.heap[b]? = w.heap[b]?) : w'.ownsRow base e s v n xs := by
  refine ⟨h.1, ?_⟩
  rcases h.2 with h0 | ⟨g, cap, cur, rfl, g1, g2, g3⟩
  · exact .inl h0
  · exact .inr ⟨g, cap, cur, rfl, g1, by rw [hk g g1 (Array.getElem?_eq_some_iff.1 g2).1]; exact g2, g3⟩

set_option maxRecDepth 20000 in
set_option maxHeartbeats 8000000 in
theorem lown_walk (cs : List Value) (s : Nod) (ba : Option Addr) (bn bc : Nat) (lb : List UInt8) (W : World) (h0 : rNod.rd W (fun b => b < W.heap.size) cs s) (h1 : rBytes.rd W (fun b => b < W.heap.size) [.slice ba bn bc] lb) :
    Calls Try.prog 8 #[.agg cs.toArray, .slice ba bn bc] W fun e W' => e = .returned (.bool true) ∧ Below W.heap.size W W' := by
  obtain ⟨a, n, c, a', n', c', rfl, hL, hK⟩ := rNod_rd h0
  obtain ⟨l, ks⟩ := s
  simp only at hL hK
  have HN : Hid (l.length = n) := (rList_len hL).1
  have HN' : Hid (ks.length = n') := (rList_len hK).1
  have HLB : Hid (l.length ≤ 8796093021952) := by unfold Hid; rw [HN.out]; have h : n * 16 ≤ 140737488351232 := (rList_len hL).2.2.2; omega
  have HKB : Hid (ks.length ≤ 17592186043904) := by unfold Hid; rw [HN'.out]; have h : n' * 8 ≤ 140737488351232 := (rList_len hK).2.2.2; omega
  rw [show ([.slice a n c, .slice a' n' c'] : List Value).toArray = #[.slice a n c, .slice a' n' c'] from rfl]
  obtain ⟨hB, hbc, hbnil, hbn⟩ := rBytes_isB h1
  have HCb : Hid (bn ≤ bc) := hbc
  have HZb : Hid (ba = none → bc = 0) := hbnil
  have HLb : Hid (bn ≤ 140737488351232) := hbn
  obtain ⟨w1, hw1, V1, b1, z1⟩ := boxedRow W 25 [.slice a n c, .slice a' n' c']
  have Rs_1 : Hid (Row w1 (W.heap.size) 25 [.slice a n c, .slice a' n' c']) := V1
  have B_1 : Hid (Below W.heap.size W w1) := b1
  have Is_1 : Hid (rItms.rd w1 (fun b => b < W.heap.size) [.slice a n c] (l)) := Rep.below hL b1
  have Ks_1 : Hid (rKids.rd w1 (fun b => b < W.heap.size) [.slice a' n' c'] (ks)) := Rep.below hK b1
  have Bb_1 : Hid (IsB w1 (ba) (bn) (lb)) := hB.below b1
  clear V1 b1 z1 hL hK h0 hB hbc hbnil hbn h1
  go_enter Try.func8, Try.ntmps8
  go_wp2_with fail
  refine (alive7_u _).mono ?_
  rintro e w2 ⟨rfl, b2⟩
  have Rs_2 : Hid (Row w2 (W.heap.size) 25 [.slice a n c, .slice a' n' c']) := Rs_1.out.below (b2)
  have Is_2 : Hid (rItms.rd w2 (fun b => b < W.heap.size) [.slice a n c] (l)) := Rep.below Is_1.out (b2)
  have Ks_2 : Hid (rKids.rd w2 (fun b => b < W.heap.size) [.slice a' n' c'] (ks)) := Rep.below Ks_1.out (b2)
  have Bb_2 : Hid (IsB w2 (ba) (bn) (lb)) := Bb_1.out.below (b2)
  have B_2 : Hid (Below W.heap.size W w2) := on B_1.out (b2)
  clear Rs_1 Is_1 Ks_1 Bb_1
  clear b2
  obtain ⟨qs0, qs1⟩ := Rs_2.out.two
  go_wp2_with (go_at_call 16; refine (num7_u _ _).mono ?_; rintro e w99 ⟨rfl, rfl⟩)
  refine (of_u _ _ _ _ _ _ _ _ _ l ks Is_2.out Ks_2.out).mono ?_
  rintro e w3 ⟨v3, u3, rfl, hI3, hK3, b3⟩
  obtain ⟨ao, no, co, rfl⟩ : ∃ a n c, v3 = .slice a n c := by obtain ⟨a, c, e, -⟩ := hI3.slice; exact ⟨a, _, c, e⟩
  obtain ⟨go, mo, fo, rfl⟩ : ∃ a n c, u3 = .slice a n c := by obtain ⟨a, c, e, -⟩ := hK3.slice; exact ⟨a, _, c, e⟩
  have Io_3 : Hid (rItms.rd w3 (fun b => w2.heap.size ≤ b) [.slice ao no co] (l)) := hI3.rd (HLB.out)
  have Ko_3 : Hid (rKids.rd w3 (fun b => w2.heap.size ≤ b) [.slice go mo fo] (ks)) := hK3.rd (HKB.out)
  have Po_3 : Hid (OwnI 53 w3 (w2.heap.size) (.slice ao no co) (l)) := hI3
  have Rs_3 : Hid (Row w3 (W.heap.size) 25 [.slice a n c, .slice a' n' c']) := Rs_2.out.below (b3)
  have Is_3 : Hid (rItms.rd w3 (fun b => b < W.heap.size) [.slice a n c] (l)) := Rep.below Is_2.out (b3)
  have Ks_3 : Hid (rKids.rd w3 (fun b => b < W.heap.size) [.slice a' n' c'] (ks)) := Rep.below Ks_2.out (b3)
  have Bb_3 : Hid (IsB w3 (ba) (bn) (lb)) := Bb_2.out.below (b3)
  have B_3 : Hid (Below W.heap.size W w3) := on B_2.out (b3)
  clear qs0 qs1
  clear Rs_2 Is_2 Ks_2 Bb_2
  clear hI3 hK3 b3
  go_wp2_with (go_at_call 16; refine (num7_u _ _).mono ?_; rintro e w99 ⟨rfl, rfl⟩)
  refine (copy_u _ _ _ _ lb (by have := HLb.out; omega) HZb.out Bb_3.out).mono ?_
  rintro e w4 ⟨xi, zi, rfl, ho4, b4⟩
  obtain ⟨hx4, hy4, hz4⟩ := owns_isB ho4
  have Qi_4 : Hid (w4.ownsRow (w3.heap.size) 5 1 (.slice xi bn zi) (bn) (cellsOf (lb))) := ho4
  have HCi : Hid (bn ≤ zi) := hy4
  have HZi : Hid (xi = none → zi = 0) := hz4
  have HIn : Hid (∀ q, (Value.slice xi bn zi).ownBlock = some q → w3.heap.size ≤ q ∧ q < w4.heap.size) := fun q hq => ⟨own_base ho4 q hq, own_lt ho4 q hq⟩
  have HOw : Hid (∀ q, (Value.slice ao no co).ownBlock = some q → w2.heap.size ≤ q ∧ q < w3.heap.size) := fun q hq => Po_3.out.row.lt q hq
  have HWo : Hid (W.heap.size ≤ w2.heap.size) := B_2.out.size
  have HWk : Hid (W.heap.size ≤ w3.heap.size) := B_3.out.size
  have HOk : Hid (w3.heap.size ≤ w4.heap.size) := b4.size
  have Rs_4 : Hid (Row w4 (W.heap.size) 25 [.slice a n c, .slice a' n' c']) := Rs_3.out.below (b4)
  have Is_4 : Hid (rItms.rd w4 (fun b => b < W.heap.size) [.slice a n c] (l)) := Rep.below Is_3.out (b4)
  have Ks_4 : Hid (rKids.rd w4 (fun b => b < W.heap.size) [.slice a' n' c'] (ks)) := Rep.below Ks_3.out (b4)
  have Bb_4 : Hid (IsB w4 (ba) (bn) (lb)) := Bb_3.out.below (b4)
  have Io_4 : Hid (rItms.rd w4 (fun b => w2.heap.size ≤ b) [.slice ao no co] (l)) := Rep.below Io_3.out (b4)
  have Ko_4 : Hid (rKids.rd w4 (fun b => w2.heap.size ≤ b) [.slice go mo fo] (ks)) := Rep.below Ko_3.out (b4)
  have Po_4 : Hid (OwnI 53 w4 (w2.heap.size) (.slice ao no co) (l)) := Po_3.out.below (b4)
  have B_4 : Hid (Below W.heap.size W w4) := on B_3.out (b4)
  clear Rs_3 Is_3 Ks_3 Bb_3 Io_3 Ko_3 Po_3
  clear hx4 hy4 hz4 ho4 b4
  have SZ_4 : Hid (w4.heap.size ≤ w4.heap.size) := Nat.le_refl _
  obtain ⟨w5, hw5, V5, b5, z5⟩ := boxedRow w4 28 [.slice ao no co, .slice go mo fo]
  have Ro_5 : Hid (Row w5 (w4.heap.size) 28 [.slice ao no co, .slice go mo fo]) := V5
  have Rs_5 : Hid (Row w5 (W.heap.size) 25 [.slice a n c, .slice a' n' c']) := Rs_4.out.below (b5)
  have Is_5 : Hid (rItms.rd w5 (fun b => b < W.heap.size) [.slice a n c] (l)) := Rep.below Is_4.out (b5)
  have Ks_5 : Hid (rKids.rd w5 (fun b => b < W.heap.size) [.slice a' n' c'] (ks)) := Rep.below Ks_4.out (b5)
  have Bb_5 : Hid (IsB w5 (ba) (bn) (lb)) := Bb_4.out.below (b5)
  have Io_5 : Hid (rItms.rd w5 (fun b => w2.heap.size ≤ b) [.slice ao no co] (l)) := Rep.below Io_4.out (b5)
  have Ko_5 : Hid (rKids.rd w5 (fun b => w2.heap.size ≤ b) [.slice go mo fo] (ks)) := Rep.below Ko_4.out (b5)
  have Po_5 : Hid (OwnI 53 w5 (w2.heap.size) (.slice ao no co) (l)) := Po_4.out.below (b5)
  have Qi_5 : Hid (w5.ownsRow (w3.heap.size) 5 1 (.slice xi bn zi) (bn) (cellsOf (lb))) := owns_below Qi_4.out (b5)
  have B_5 : Hid (Below W.heap.size W w5) := on B_4.out (b5)
  have SZ_5 : Hid (w4.heap.size ≤ w5.heap.size) := Nat.le_trans SZ_4.out (b5).size
  clear Rs_4 Is_4 Ks_4 Bb_4 Io_4 Ko_4 Po_4 Qi_4
  clear V5 b5 z5
  obtain ⟨qo0, qo1⟩ := Ro_5.out.two
  go_wp2_with (go_at_call 16; refine (num7_u _ _).mono ?_; rintro e w99 ⟨rfl, rfl⟩)
  refine (encode_u _ _ _ _ _ _ _ _ _ l ks Io_5.out Ko_5.out).mono ?_
  rintro e w6 ⟨xx, yx, zx, rfl, ho6, b6⟩
  obtain ⟨hx6, hy6, hz6⟩ := owns_isB ho6
  have Bx_6 : Hid (IsB w6 (xx) (yx) (Lf.encodeL (l, ks))) := hx6
  have HCx : Hid (yx ≤ zx) := hy6
  have HZx : Hid (xx = none → zx = 0) := hz6
  have Qx_6 : Hid (w6.ownsRow (w5.heap.size) 5 1 (.slice xx yx zx) (yx) (cellsOf (Lf.encodeL (l, ks)))) := ho6
  have Rs_6 : Hid (Row w6 (W.heap.size) 25 [.slice a n c, .slice a' n' c']) := Rs_5.out.below (b6)
  have Is_6 : Hid (rItms.rd w6 (fun b => b < W.heap.size) [.slice a n c] (l)) := Rep.below Is_5.out (b6)
  have Ks_6 : Hid (rKids.rd w6 (fun b => b < W.heap.size) [.slice a' n' c'] (ks)) := Rep.below Ks_5.out (b6)
  have Bb_6 : Hid (IsB w6 (ba) (bn) (lb)) := Bb_5.out.below (b6)
  have Io_6 : Hid (rItms.rd w6 (fun b => w2.heap.size ≤ b) [.slice ao no co] (l)) := Rep.below Io_5.out (b6)
  have Ko_6 : Hid (rKids.rd w6 (fun b => w2.heap.size ≤ b) [.slice go mo fo] (ks)) := Rep.below Ko_5.out (b6)
  have Po_6 : Hid (OwnI 53 w6 (w2.heap.size) (.slice ao no co) (l)) := Po_5.out.below (b6)
  have Qi_6 : Hid (w6.ownsRow (w3.heap.size) 5 1 (.slice xi bn zi) (bn) (cellsOf (lb))) := owns_below Qi_5.out (b6)
  have Ro_6 : Hid (Row w6 (w4.heap.size) 28 [.slice ao no co, .slice go mo fo]) := Ro_5.out.below (b6)
  have B_6 : Hid (Below W.heap.size W w6) := on B_5.out (b6)
  have SZ_6 : Hid (w4.heap.size ≤ w6.heap.size) := Nat.le_trans SZ_5.out (b6).size
  clear qo0 qo1
  clear Rs_5 Is_5 Ks_5 Bb_5 Io_5 Ko_5 Po_5 Qi_5 Ro_5
  clear Bx_6
  clear hx6 hy6 hz6 ho6 b6
  obtain ⟨qs0, qs1⟩ := Rs_6.out.two
  go_wp2_with (go_at_call 16; refine (num7_u _ _).mono ?_; rintro e w99 ⟨rfl, rfl⟩)
  refine (refEncode_u _ _ _ _ _ _ _ _ _ l ks Is_6.out Ks_6.out).mono ?_
  rintro e w7 ⟨xy, yy, zy, rfl, ho7, b7⟩
  obtain ⟨hx7, hy7, hz7⟩ := owns_isB ho7
  have By_7 : Hid (IsB w7 (xy) (yy) (Lf.encodeL (l, ks))) := hx7
  have HCy : Hid (yy ≤ zy) := hy7
  have HZy : Hid (xy = none → zy = 0) := hz7
  have Qy_7 : Hid (w7.ownsRow (w6.heap.size) 5 1 (.slice xy yy zy) (yy) (cellsOf (Lf.encodeL (l, ks)))) := ho7
  have Rs_7 : Hid (Row w7 (W.heap.size) 25 [.slice a n c, .slice a' n' c']) := Rs_6.out.below (b7)
  have Is_7 : Hid (rItms.rd w7 (fun b => b < W.heap.size) [.slice a n c] (l)) := Rep.below Is_6.out (b7)
  have Ks_7 : Hid (rKids.rd w7 (fun b => b < W.heap.size) [.slice a' n' c'] (ks)) := Rep.below Ks_6.out (b7)
  have Bb_7 : Hid (IsB w7 (ba) (bn) (lb)) := Bb_6.out.below (b7)
  have Io_7 : Hid (rItms.rd w7 (fun b => w2.heap.size ≤ b) [.slice ao no co] (l)) := Rep.below Io_6.out (b7)
  have Ko_7 : Hid (rKids.rd w7 (fun b => w2.heap.size ≤ b) [.slice go mo fo] (ks)) := Rep.below Ko_6.out (b7)
  have Po_7 : Hid (OwnI 53 w7 (w2.heap.size) (.slice ao no co) (l)) := Po_6.out.below (b7)
  have Qi_7 : Hid (w7.ownsRow (w3.heap.size) 5 1 (.slice xi bn zi) (bn) (cellsOf (lb))) := owns_below Qi_6.out (b7)
  have Ro_7 : Hid (Row w7 (w4.heap.size) 28 [.slice ao no co, .slice go mo fo]) := Ro_6.out.below (b7)
  have Qx_7 : Hid (w7.ownsRow (w5.heap.size) 5 1 (.slice xx yx zx) (yx) (cellsOf (Lf.encodeL (l, ks)))) := owns_below Qx_6.out (b7)
  have B_7 : Hid (Below W.heap.size W w7) := on B_6.out (b7)
  have SZ_7 : Hid (w4.heap.size ≤ w7.heap.size) := Nat.le_trans SZ_6.out (b7).size
  clear qs0 qs1
  clear Rs_6 Is_6 Ks_6 Bb_6 Io_6 Ko_6 Po_6 Qi_6 Ro_6 Qx_6
  clear By_7
  clear hx7 hy7 hz7 ho7 b7
  clear Rs_7 Is_7 Ks_7
  go_wp2_with (go_at_call 16; refine (num7_u _ _).mono ?_; rintro e w99 ⟨rfl, rfl⟩)
  refine (decode_u _ _ _ _ lb HLb.out HCi.out HZi.out (owns_isB Qi_7.out).1).mono ?_
  rintro e w8 ⟨v8, u8, rfl, hI8, hK8, b8⟩
  obtain ⟨av, nv, cv, rfl⟩ : ∃ a n c, v8 = .slice a n c := by obtain ⟨a, c, e, -⟩ := hI8.slice; exact ⟨a, _, c, e⟩
  obtain ⟨gv, mv, fv, rfl⟩ : ∃ a n c, u8 = .slice a n c := by obtain ⟨a, c, e, -⟩ := hK8.slice; exact ⟨a, _, c, e⟩
  have Iv_8 : Hid (rItms.rd w8 (fun b => w7.heap.size ≤ b) [.slice av nv cv] ((Lf.decodeN lb).1)) := hI8.rd (by have := Lf.decodeN_len lb; omega)
  have Kv_8 : Hid (rKids.rd w8 (fun b => w7.heap.size ≤ b) [.slice gv mv fv] ((Lf.decodeN lb).2)) := hK8.rd (by have := Lf.decodeN_len lb; omega)
  have Bb_8 : Hid (IsB w8 (ba) (bn) (lb)) := Bb_7.out.below (b8)
  have Io_8 : Hid (rItms.rd w8 (fun b => w2.heap.size ≤ b) [.slice ao no co] (l)) := Rep.below Io_7.out (b8)
  have Ko_8 : Hid (rKids.rd w8 (fun b => w2.heap.size ≤ b) [.slice go mo fo] (ks)) := Rep.below Ko_7.out (b8)
  have Po_8 : Hid (OwnI 53 w8 (w2.heap.size) (.slice ao no co) (l)) := Po_7.out.below (b8)
  have Qi_8 : Hid (w8.ownsRow (w3.heap.size) 5 1 (.slice xi bn zi) (bn) (cellsOf (lb))) := owns_below Qi_7.out (b8)
  have Ro_8 : Hid (Row w8 (w4.heap.size) 28 [.slice ao no co, .slice go mo fo]) := Ro_7.out.below (b8)
  have Qx_8 : Hid (w8.ownsRow (w5.heap.size) 5 1 (.slice xx yx zx) (yx) (cellsOf (Lf.encodeL (l, ks)))) := owns_below Qx_7.out (b8)
  have Qy_8 : Hid (w8.ownsRow (w6.heap.size) 5 1 (.slice xy yy zy) (yy) (cellsOf (Lf.encodeL (l, ks)))) := owns_below Qy_7.out (b8)
  have B_8 : Hid (Below W.heap.size W w8) := on B_7.out (b8)
  have SZ_8 : Hid (w4.heap.size ≤ w8.heap.size) := Nat.le_trans SZ_7.out (b8).size
  clear Bb_7 Io_7 Ko_7 Po_7 Qi_7 Ro_7 Qx_7 Qy_7
  clear hI8 hK8 b8
  obtain ⟨w9, hw9, V9, b9, z9⟩ := boxedRow w8 28 [.slice av nv cv, .slice gv mv fv]
  have Rv_9 : Hid (Row w9 (w8.heap.size) 28 [.slice av nv cv, .slice gv mv fv]) := V9
  have Bb_9 : Hid (IsB w9 (ba) (bn) (lb)) := Bb_8.out.below (b9)
  have Io_9 : Hid (rItms.rd w9 (fun b => w2.heap.size ≤ b) [.slice ao no co] (l)) := Rep.below Io_8.out (b9)
  have Ko_9 : Hid (rKids.rd w9 (fun b => w2.heap.size ≤ b) [.slice go mo fo] (ks)) := Rep.below Ko_8.out (b9)
  have Po_9 : Hid (OwnI 53 w9 (w2.heap.size) (.slice ao no co) (l)) := Po_8.out.below (b9)
  have Qi_9 : Hid (w9.ownsRow (w3.heap.size) 5 1 (.slice xi bn zi) (bn) (cellsOf (lb))) := owns_below Qi_8.out (b9)
  have Ro_9 : Hid (Row w9 (w4.heap.size) 28 [.slice ao no co, .slice go mo fo]) := Ro_8.out.below (b9)
  have Qx_9 : Hid (w9.ownsRow (w5.heap.size) 5 1 (.slice xx yx zx) (yx) (cellsOf (Lf.encodeL (l, ks)))) := owns_below Qx_8.out (b9)
  have Qy_9 : Hid (w9.ownsRow (w6.heap.size) 5 1 (.slice xy yy zy) (yy) (cellsOf (Lf.encodeL (l, ks)))) := owns_below Qy_8.out (b9)
  have Iv_9 : Hid (rItms.rd w9 (fun b => w7.heap.size ≤ b) [.slice av nv cv] ((Lf.decodeN lb).1)) := Rep.below Iv_8.out (b9)
  have Kv_9 : Hid (rKids.rd w9 (fun b => w7.heap.size ≤ b) [.slice gv mv fv] ((Lf.decodeN lb).2)) := Rep.below Kv_8.out (b9)
  have B_9 : Hid (Below W.heap.size W w9) := on B_8.out (b9)
  have SZ_9 : Hid (w4.heap.size ≤ w9.heap.size) := Nat.le_trans SZ_8.out (b9).size
  clear Bb_8 Io_8 Ko_8 Po_8 Qi_8 Ro_8 Qx_8 Qy_8 Iv_8 Kv_8
  clear V9 b9 z9
  go_wp2_with (go_at_call 16; refine (num7_u _ _).mono ?_; rintro e w99 ⟨rfl, rfl⟩)
  refine (refDecode_u _ _ _ _ lb HLb.out HCb.out HZb.out Bb_9.out).mono ?_
  rintro e w10 ⟨v10, u10, rfl, hI10, hK10, b10⟩
  obtain ⟨ar, nr, cr, rfl⟩ : ∃ a n c, v10 = .slice a n c := by obtain ⟨a, c, e, -⟩ := hI10.slice; exact ⟨a, _, c, e⟩
  obtain ⟨gr, mr, fr, rfl⟩ : ∃ a n c, u10 = .slice a n c := by obtain ⟨a, c, e, -⟩ := hK10.slice; exact ⟨a, _, c, e⟩
  have Ir_10 : Hid (rItms.rd w10 (fun b => w9.heap.size ≤ b) [.slice ar nr cr] ((Lf.decodeN lb).1)) := hI10.rd (by have := Lf.decodeN_len lb; omega)
  have Kr_10 : Hid (rKids.rd w10 (fun b => w9.heap.size ≤ b) [.slice gr mr fr] ((Lf.decodeN lb).2)) := hK10.rd (by have := Lf.decodeN_len lb; omega)
  have Bb_10 : Hid (IsB w10 (ba) (bn) (lb)) := Bb_9.out.below (b10)
  have Io_10 : Hid (rItms.rd w10 (fun b => w2.heap.size ≤ b) [.slice ao no co] (l)) := Rep.below Io_9.out (b10)
  have Ko_10 : Hid (rKids.rd w10 (fun b => w2.heap.size ≤ b) [.slice go mo fo] (ks)) := Rep.below Ko_9.out (b10)
  have Po_10 : Hid (OwnI 53 w10 (w2.heap.size) (.slice ao no co) (l)) := Po_9.out.below (b10)
  have Qi_10 : Hid (w10.ownsRow (w3.heap.size) 5 1 (.slice xi bn zi) (bn) (cellsOf (lb))) := owns_below Qi_9.out (b10)
  have Ro_10 : Hid (Row w10 (w4.heap.size) 28 [.slice ao no co, .slice go mo fo]) := Ro_9.out.below (b10)
  have Qx_10 : Hid (w10.ownsRow (w5.heap.size) 5 1 (.slice xx yx zx) (yx) (cellsOf (Lf.encodeL (l, ks)))) := owns_below Qx_9.out (b10)
  have Qy_10 : Hid (w10.ownsRow (w6.heap.size) 5 1 (.slice xy yy zy) (yy) (cellsOf (Lf.encodeL (l, ks)))) := owns_below Qy_9.out (b10)
  have Iv_10 : Hid (rItms.rd w10 (fun b => w7.heap.size ≤ b) [.slice av nv cv] ((Lf.decodeN lb).1)) := Rep.below Iv_9.out (b10)
  have Kv_10 : Hid (rKids.rd w10 (fun b => w7.heap.size ≤ b) [.slice gv mv fv] ((Lf.decodeN lb).2)) := Rep.below Kv_9.out (b10)
  have Rv_10 : Hid (Row w10 (w8.heap.size) 28 [.slice av nv cv, .slice gv mv fv]) := Rv_9.out.below (b10)
  have B_10 : Hid (Below W.heap.size W w10) := on B_9.out (b10)
  have SZ_10 : Hid (w4.heap.size ≤ w10.heap.size) := Nat.le_trans SZ_9.out (b10).size
  clear Bb_9 Io_9 Ko_9 Po_9 Qi_9 Ro_9 Qx_9 Qy_9 Iv_9 Kv_9 Rv_9
  clear hI10 hK10 b10
  obtain ⟨w11, hw11, V11, b11, z11⟩ := boxedRow w10 25 [.slice ar nr cr, .slice gr mr fr]
  have Rr_11 : Hid (Row w11 (w10.heap.size) 25 [.slice ar nr cr, .slice gr mr fr]) := V11
  have Bb_11 : Hid (IsB w11 (ba) (bn) (lb)) := Bb_10.out.below (b11)
  have Io_11 : Hid (rItms.rd w11 (fun b => w2.heap.size ≤ b) [.slice ao no co] (l)) := Rep.below Io_10.out (b11)
  have Ko_11 : Hid (rKids.rd w11 (fun b => w2.heap.size ≤ b) [.slice go mo fo] (ks)) := Rep.below Ko_10.out (b11)
  have Po_11 : Hid (OwnI 53 w11 (w2.heap.size) (.slice ao no co) (l)) := Po_10.out.below (b11)
  have Qi_11 : Hid (w11.ownsRow (w3.heap.size) 5 1 (.slice xi bn zi) (bn) (cellsOf (lb))) := owns_below Qi_10.out (b11)
  have Ro_11 : Hid (Row w11 (w4.heap.size) 28 [.slice ao no co, .slice go mo fo]) := Ro_10.out.below (b11)
  have Qx_11 : Hid (w11.ownsRow (w5.heap.size) 5 1 (.slice xx yx zx) (yx) (cellsOf (Lf.encodeL (l, ks)))) := owns_below Qx_10.out (b11)
  have Qy_11 : Hid (w11.ownsRow (w6.heap.size) 5 1 (.slice xy yy zy) (yy) (cellsOf (Lf.encodeL (l, ks)))) := owns_below Qy_10.out (b11)
  have Iv_11 : Hid (rItms.rd w11 (fun b => w7.heap.size ≤ b) [.slice av nv cv] ((Lf.decodeN lb).1)) := Rep.below Iv_10.out (b11)
  have Kv_11 : Hid (rKids.rd w11 (fun b => w7.heap.size ≤ b) [.slice gv mv fv] ((Lf.decodeN lb).2)) := Rep.below Kv_10.out (b11)
  have Rv_11 : Hid (Row w11 (w8.heap.size) 28 [.slice av nv cv, .slice gv mv fv]) := Rv_10.out.below (b11)
  have Ir_11 : Hid (rItms.rd w11 (fun b => w9.heap.size ≤ b) [.slice ar nr cr] ((Lf.decodeN lb).1)) := Rep.below Ir_10.out (b11)
  have Kr_11 : Hid (rKids.rd w11 (fun b => w9.heap.size ≤ b) [.slice gr mr fr] ((Lf.decodeN lb).2)) := Rep.below Kr_10.out (b11)
  have B_11 : Hid (Below W.heap.size W w11) := on B_10.out (b11)
  have SZ_11 : Hid (w4.heap.size ≤ w11.heap.size) := Nat.le_trans SZ_10.out (b11).size
  clear Bb_10 Io_10 Ko_10 Po_10 Qi_10 Ro_10 Qx_10 Qy_10 Iv_10 Kv_10 Rv_10 Ir_10 Kr_10
  clear V11 b11 z11
  clear Bb_11 Io_11 Ko_11
  go_wp2_with (go_at_call 16; refine (num7_u _ _).mono ?_; rintro e w99 ⟨rfl, rfl⟩)
  refine (spoil_u _ _ bn zi xi lb (by have := HLb.out; omega) Qi_11.out).mono ?_
  rintro e wS ⟨rfl, gS⟩
  have KS : Hid (Kept (fun b => w4.heap.size ≤ b ∧ b < w11.heap.size) w11 wS) := ⟨gS.os, gS.tape, gS.output, gS.size, fun q hq => gS.block q hq.2 (fun e => by have := (HIn.out q e.symm).2; omega)⟩
  have BS : Hid (Below W.heap.size W wS) := B_11.out.grown gS B_11.out.size (fun q hq => Nat.le_trans HWk.out (HIn.out q hq).1)
  have PS : Hid (OwnI 53 wS (w2.heap.size) (.slice ao no co) l) := Po_11.out.keep1 (fun q hq => gS.block q (Po_11.out.row.lt q hq).2 (fun e => by have h1 := (HIn.out q e.symm).1; have h2 := (HOw.out q hq).2; omega))
  have hno : no ≤ 8796093021952 := by have h := Po_11.out.row.1; have h2 := HLB.out; obtain ⟨a9, c9, e9, -, -⟩ := Po_11.out.slice; simp only [Value.slice.injEq] at e9; omega
  have HNo : Hid (l.length = no) := by obtain ⟨a9, c9, e9, -, -⟩ := Po_11.out.slice; simp only [Value.slice.injEq] at e9; exact e9.2.1.symm
  clear gS Po_11 Qi_11
  have HRo : Hid (∀ {wx : World}, Kept (fun b => w4.heap.size ≤ b ∧ b < w11.heap.size) w11 wx → Row wx (w4.heap.size) 28 [.slice ao no co, .slice go mo fo]) := fun K9 => Ro_11.out.keep (K9.block _ ⟨SZ_4.out, Ro_11.out.lt⟩)
  obtain ⟨t0, t1⟩ := (HRo.out KS.out).two
  go_wp2
  clear t0 t1
  go_loopw [15] (fun i wr => ∃ (j : Nat) (L : List Itm), j ≤ no ∧ i = .int .i64 j ∧ Hid (L.length = no) ∧ Hid (OwnI 53 wr (w2.heap.size) (.slice ao no co) L) ∧ Hid (Kept (fun b => w4.heap.size ≤ b ∧ b < w11.heap.size) w11 wr) ∧ Hid (Below W.heap.size W wr)) (fun i _ => no - (intOf i).toNat)
  case atStart => exact ⟨0, l, Nat.zero_le _, rfl, HNo, PS, KS, BS⟩
  case round =>
    clear PS KS BS
    obtain ⟨j, L, hj, rfl, HL, HP, HKt, HB⟩ := hrel
    obtain ⟨t0, t1⟩ := (HRo.out HKt.out).two
    by_cases hlt : j < no
    · have hjl : j < L.length := by rw [HL.out]; exact hlt
      have hg : ∃ g, ao = some ⟨g, 0, none⟩ ∧ w2.heap.size ≤ g ∧ g < w3.heap.size := by
        rcases HP.out.row.2 with ⟨e9, h9⟩ | ⟨g, cap, cur, e9, -⟩
        · simp only [Value.slice.injEq] at e9; omega
        · simp only [Value.slice.injEq] at e9
          obtain ⟨rfl, -, -⟩ := e9
          exact ⟨g, rfl, HOw.out g rfl⟩
      obtain ⟨g, rfl, hg1, hg2⟩ := hg
      have h0 := HP.out.row
      rw [HL.out] at h0
      have i0 := h0.cells (g := g) rfl (j * 2) _ (itmCells_get hjl).1
      have i1 := h0.cells (g := g) rfl (j * 2 + 1) _ (itmCells_get hjl).2
      rw [Addr.add_lit, Nat.zero_add] at i0 i1
      have f0 := h0.frozenAt (j * 2)
      have f1 := h0.frozenAt (j * 2 + 1)
      have s1 := h0.stored (j * 2) (.int .u64 ((0 : UInt64).toNat : Int))
      have s2 := s1.1.stored (j * 2 + 1) (.int .u64 ((0 : UInt64).toNat : Int))
      have HL2 : Hid (((L.set j (0, L[j].2)).set j (((L.set j (0, L[j].2))[j]'(by rw [List.length_set]; exact hjl)).1, 0)).length = no) := by unfold Hid; rw [List.length_set, List.length_set]; exact HL.out
      have HP2 : Hid (OwnI 53 ((wr.setCell ⟨g, j * 2, none⟩ (.int .u64 0)).setCell ⟨g, j * 2 + 1, none⟩ (.int .u64 0)) (w2.heap.size) (.slice (some ⟨g, 0, none⟩) no co) ((L.set j (0, L[j].2)).set j (((L.set j (0, L[j].2))[j]'(by rw [List.length_set]; exact hjl)).1, 0))) := by
        have h2 := s2.1
        rw [itmCells_set1 L j hjl, itmCells_set2 _ j (by rw [List.length_set]; exact hjl)] at h2
        exact ⟨by rw [HL2.out]; exact h2⟩
      have HK2 : Hid (Kept (fun b => w4.heap.size ≤ b ∧ b < w11.heap.size) w11 ((wr.setCell ⟨g, j * 2, none⟩ (.int .u64 0)).setCell ⟨g, j * 2 + 1, none⟩ (.int .u64 0))) := (HKt.out.setCell (p := ⟨g, j * 2, none⟩) (fun h => by have h1 := h.1; have := HOk.out; simp only at h1; omega) _).setCell (p := ⟨g, j * 2 + 1, none⟩) (fun h => by have h1 := h.1; have := HOk.out; simp only at h1; omega) _
      have HB2 : Hid (Below W.heap.size W ((wr.setCell ⟨g, j * 2, none⟩ (.int .u64 0)).setCell ⟨g, j * 2 + 1, none⟩ (.int .u64 0))) := (HB.out.setCell (p := ⟨g, j * 2, none⟩) (by have := HWo.out; show W.heap.size ≤ g; omega) _).setCell (p := ⟨g, j * 2 + 1, none⟩) (by have := HWo.out; show W.heap.size ≤ g; omega) _
      obtain ⟨X, hX⟩ : ∃ X, X = L[j] := ⟨_, rfl⟩
      rw [← hX] at i0 i1
      clear h0 s1 s2 hX hg1 hg2
      have hjz : (j : Int) < (no : Int) := by omega
      go_wp2
      go_roundw
      case rel => exact ⟨j + 1, _, by omega, by go_num, HL2, HP2, HK2, HB2⟩
      case measure => simp [intOf]; omega
    · obtain rfl : no = j := by omega
      obtain ⟨wq, hwq⟩ : ∃ wq, wq = wr := ⟨_, rfl⟩
      subst hwq
      have Bx : Hid (IsB wq xx (yx) (Lf.encodeL (l, ks))) := (owns_isB (show wq.ownsRow (w5.heap.size) 5 1 (.slice xx yx zx) (yx) (cellsOf (Lf.encodeL (l, ks))) from owns_keepB Qx_11.out (fun q hq hq2 => HKt.out.block q ⟨Nat.le_trans SZ_5.out hq, hq2⟩))).1
      have By : Hid (IsB wq xy (yy) (Lf.encodeL (l, ks))) := (owns_isB (show wq.ownsRow (w6.heap.size) 5 1 (.slice xy yy zy) (yy) (cellsOf (Lf.encodeL (l, ks))) from owns_keepB Qy_11.out (fun q hq hq2 => HKt.out.block q ⟨Nat.le_trans SZ_6.out hq, hq2⟩))).1
      have Iv : Hid (rItms.rd wq (fun b => w7.heap.size ≤ b) [.slice av nv cv] ((Lf.decodeN lb).1)) := Rep.kept Iv_11.out HKt.out (fun q hq hl => ⟨Nat.le_trans SZ_7.out hq, hl⟩)
      have Kv : Hid (rKids.rd wq (fun b => w7.heap.size ≤ b) [.slice gv mv fv] ((Lf.decodeN lb).2)) := Rep.kept Kv_11.out HKt.out (fun q hq hl => ⟨Nat.le_trans SZ_7.out hq, hl⟩)
      have Rv : Hid (Row wq (w8.heap.size) 28 [.slice av nv cv, .slice gv mv fv]) := Rv_11.out.keep (HKt.out.block _ ⟨SZ_8.out, Rv_11.out.lt⟩)
      have Ir : Hid (rItms.rd wq (fun b => w9.heap.size ≤ b) [.slice ar nr cr] ((Lf.decodeN lb).1)) := Rep.kept Ir_11.out HKt.out (fun q hq hl => ⟨Nat.le_trans SZ_9.out hq, hl⟩)
      have Kr : Hid (rKids.rd wq (fun b => w9.heap.size ≤ b) [.slice gr mr fr] ((Lf.decodeN lb).2)) := Rep.kept Kr_11.out HKt.out (fun q hq hl => ⟨Nat.le_trans SZ_9.out hq, hl⟩)
      have Rr : Hid (Row wq (w10.heap.size) 25 [.slice ar nr cr, .slice gr mr fr]) := Rr_11.out.keep (HKt.out.block _ ⟨SZ_10.out, Rr_11.out.lt⟩)
      obtain ⟨p0, p1⟩ := Rv.out.two
      obtain ⟨p2, p3⟩ := Rr.out.two
      have ee1 : (Lf.encodeE (l, ks) == Lf.encodeE (l, ks)) = true := beq_self_eq_true _
      have ee2 : (Lf.decodeE lb == Lf.decodeE lb) = true := beq_self_eq_true _
      have bb1 : (Lf.encodeL (l, ks) == Lf.encodeL (l, ks)) = true := beq_self_eq_true _
      go_wp2_with (first | (go_at_call 16; refine (num7_u _ _).mono ?_; rintro e w99 ⟨rfl, rfl⟩) | (go_at_call 15; refine (sameBytes_any _ _ _ _ _ _ _ _ _ Bx.out By.out).mono ?_; rintro e w99 ⟨rfl, rfl⟩))
      refine (alike_u _ _ _ _ _ _ _ _ _ _ _ _ _ _ _ _ _ _ _ Iv.out Kv.out Ir.out Kr.out).mono ?_
      rintro e w98 ⟨rfl, b98⟩
      clear p0 p1 p2 p3
      go_wp2_with (go_at_call 16; refine (num7_u _ _).mono ?_; rintro e w99 ⟨rfl, rfl⟩)
      go_ret
      exact ⟨rfl, on HB.out b98⟩

set_option maxRecDepth 100000 in
theorem lown_lifted (os : Os) (started : os.Started) (H : Type) (enc : TypeId × Value → H) :
    ReturnsInHanded {} Try.checked os 8 .any (Rows.leafOwnSpec.pre6 enc Try.prog Try.f8 Rows.leafOwnRow.domain false) (Rows.leafOwnSpec.post enc Try.prog Try.f8 false true false false) := by
  refine returnsInHanded_of_change_sized (C := Try.checked) own started (by kernel_rfl) Try.func8
    (ChangeSpec.witness6 (enc := enc) (C := Try.checked) false ⟨#[], #[.agg #[.slice none 0 0, .slice none 0 0], .slice none 0 0], []⟩ 8 (by kernel_rfl) (by kernel_rfl) (by kernel_rfl) (by kernel_rfl)) ?_
  intro W base args ds gs before hval0 hW _ hsz0 _
  have hsz : (DataW.weightsEach Try.prog (Try.f8.params.toList ++ Rows.leafOwnSpec.plain.varTypes Try.prog) (ds ++ gs)).all (· ≤ reachBytes) = true := hsz0
  clear hsz0
  have hval : ∀ (j : Nat) t v, Try.f8.params[j]? = some t → args[j]? = some v → Value.okWide Try.prog W .any base t v := hval0
  have hW' := hW
  obtain ⟨p, q, hA0, hV, rfl, hfz, hnd⟩ := hW
  have hA : DataW.TrodAll enc Try.prog W 0 (fun _ => true) true Try.f8.params.toList args.toList ds p := hA0
  rw [Try.params8] at hA hval hsz
  obtain ⟨v0, vs0, d0, ds0, p0, q0, hargs, rfl, rfl, h0, r0⟩ := trodAll_cons hA
  obtain ⟨v1, vs1, d1, ds1, p1, q1, rfl, rfl, rfl, h1, r1⟩ := trodAll_cons r0
  obtain ⟨rfl, rfl, rfl⟩ := trodAll_nil r1
  obtain rfl : args = #[v0, v1] := by cases args; simp_all
  obtain ⟨rfl, rfl⟩ := trodVars_none hV
  obtain ⟨c0, rfl, -⟩ := okWide_struct Try.underlying25 (hval 0 25 v0 rfl rfl)
  have k0 := h0
  have lt0 : ∀ x ∈ p0, x.block < W.heap.size := by obtain ⟨m, hm⟩ := k0; exact DataW.trod_lt m _ _ _ hm
  obtain ⟨x0, hx0⟩ := opens_node.arg h0 hsz (j := 0) rfl rfl
  obtain ⟨a1, len1, cap1, rfl⟩ := okWide_slice Try.underlying26 (hval 1 26 v1 rfl rfl)
  have k1 := h1
  have lt1 : ∀ x ∈ p1, x.block < W.heap.size := by obtain ⟨m, hm⟩ := k1; exact DataW.trod_lt m _ _ _ hm
  obtain ⟨x1, hx1⟩ := opens_octets.arg h1 hsz (j := 1) rfl rfl
  clear hA0 hval0
  refine (lown_walk c0.toList x0 a1 len1 cap1 x1 W hx0 hx1).mono fun e W' ⟨he, bel⟩ => ?_
  subst he
  exact ⟨_, rfl, _, _, _, [], _, [], hW', trodAll_mk1 (shut_bool Try.underlying4 _), (trodAll_cons_mk (Below.trod laidOut (by kernel_rfl) (of_decide_eq_true (by kernel_rfl)) k0 bel lt0) (trodAll_cons_mk (Below.trod laidOut (by kernel_rfl) (of_decide_eq_true (by kernel_rfl)) k1 bel lt1) trodAll_mk0)), rfl, bel.frame _, fun h => by cases h⟩

theorem leafOwn_holds : Rows.LeafOwnSaid :=
  OpenClaim.holds_of_wide 8 Try.f8 rfl rfl rfl rfl rfl rfl rfl ⟨rfl, rfl, rfl, rfl, rfl⟩ rfl rfl rfl rfl rfl (by kernel_rfl) Try.func8 (by kernel_rfl)
    (of_decide_eq_true (by kernel_rfl)) (by unfold Func.isWrapper; first | (rw [if_pos (by decide +kernel)]; kernel_rfl) | (rw [if_neg (by decide +kernel)]; exact ⟨rfl, rfl⟩))
    (fun os started H enc _ => lown_lifted os started H enc)

end Go.Proofs.Ytbglgplfjhiafaa
