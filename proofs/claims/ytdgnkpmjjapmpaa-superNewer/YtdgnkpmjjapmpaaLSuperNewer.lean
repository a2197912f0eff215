/-
  Of two whole ones that with the greater number counts, wherever it stands; of one that is spoilt the other one. Conditions: none.
-/
import Derived.Test.YtdgnkpmjjapmpaaSAlive
import Derived.Test.YtdgnkpmjjapmpaaSFrame
import Derived.Test.YtdgnkpmjjapmpaaSEq
import Derived.Test.YtdgnkpmjjapmpaaSRot
import Derived.Test.YtdgnkpmjjapmpaaSTurn
import Derived.Test.YtdgnkpmjjapmpaaSNew
import Derived.Deep.QuietTactic
import Derived.BigQuiet
namespace Go.Proofs.Ytdgnkpmjjapmpaa
open Go.ChangeShapes Go.WideShapes Go.ChangeAt Go.RowKit
set_option linter.unusedVariables false

namespace Sup
theorem newest_two {s t : Super} (hs : ok s = true) (ht : ok t = true) : newestE (enc s) (enc t) = 0 ∧ newestS (enc s) (enc t) = (if s.1 < t.1 then t else s) ∧ newestN (enc s) (enc t) = (if s.1 < t.1 then 1 else 0) := by
  obtain ⟨a1, a2⟩ := decode_enc hs
  obtain ⟨b1, b2⟩ := decode_enc ht
  have hE : newestE (enc s) (enc t) = 0 := by unfold newestE; rw [if_neg (fun h => h.1 a1)]
  have h2 : second (enc s) (enc t) = decide (s.1 < t.1) := by unfold second; rw [a1, a2, b1, b2]; simp
  refine ⟨hE, ?_, ?_⟩
  · unfold newestS; rw [if_pos hE, h2, a2, b2]; by_cases h : s.1 < t.1 <;> simp [h]
  · unfold newestN; rw [if_pos hE, h2]; by_cases h : s.1 < t.1 <;> simp [h]

theorem newest_spoilt {s : Super} {b : List UInt8} (hs : ok s = true) (hb : decodeE b = 21) : newestE b (enc s) = 0 ∧ newestS b (enc s) = s ∧ newestN b (enc s) = 1 := by
  obtain ⟨a1, a2⟩ := decode_enc hs
  have hE : newestE b (enc s) = 0 := by unfold newestE; rw [if_neg (fun h => h.2 a1)]
  have h2 : second b (enc s) = true := by unfold second; rw [hb]; rfl
  refine ⟨hE, ?_, ?_⟩
  · unfold newestS; rw [if_pos hE, h2, a2]; rfl
  · unfold newestN; rw [if_pos hE, h2]; rfl
end Sup

set_option maxHeartbeats 8000000 in
theorem snewer_walk (cs : List Value) (s : Super) (ct : List Value) (t : Super) (at_ : Int) (tu : Int) (W : World) (h0 : rSuper.rd W (fun b => b < W.heap.size) cs s) (h1 : rSuper.rd W (fun b => b < W.heap.size) ct t) (hp1 : -9223372036854775808 ≤ at_) (hp2 : at_ ≤ 9223372036854775807) (ht1 : 0 ≤ tu) (ht2 : tu ≤ 255) :
    Calls Try.prog 6 #[.agg cs.toArray, .agg ct.toArray, .int .i64 at_, .int .u8 tu] W fun e W' => e = .returned (.bool true) ∧ Below W.heap.size W W' := by
  have HS0 : Hid _ := h0
  have HT0 : Hid _ := h1
  obtain rfl := rSuper_cells h0
  obtain rfl := rSuper_cells h1
  clear h0 h1
  obtain ⟨T, rfl⟩ := byte_of tu ht1 ht2
  clear ht1 ht2
  have hq : ∀ w, (Op.equalIn 10000 29 (.agg #[.int .i64 s.1, .int .i64 s.2.1, .int .i64 s.2.2.1, .int .i64 s.2.2.2.1, .int .i64 s.2.2.2.2.1, .int .i64 s.2.2.2.2.2.1, .int .i64 s.2.2.2.2.2.2]) (.agg #[.int .i64 s.1, .int .i64 s.2.1, .int .i64 s.2.2.1, .int .i64 s.2.2.2.1, .int .i64 s.2.2.2.2.1, .int .i64 s.2.2.2.2.2.1, .int .i64 s.2.2.2.2.2.2])).run Try.prog w = .ok true w := fun w => (equal_sup w s s).trans (by simp)
  obtain ⟨w0, hw0, V0, b0, -⟩ := boxedRow W 23 [.int .i64 s.1, .int .i64 s.2.1, .int .i64 s.2.2.1, .int .i64 s.2.2.2.1, .int .i64 s.2.2.2.2.1, .int .i64 s.2.2.2.2.2.1, .int .i64 s.2.2.2.2.2.2]
  obtain ⟨w1, hw1, V1, b1, -⟩ := boxedRow w0 23 [.int .i64 t.1, .int .i64 t.2.1, .int .i64 t.2.2.1, .int .i64 t.2.2.2.1, .int .i64 t.2.2.2.2.1, .int .i64 t.2.2.2.2.2.1, .int .i64 t.2.2.2.2.2.2]
  have VS : Hid (Row _ _ _ _) := V0.below b1
  have VT : Hid (Row _ _ _ _) := V1
  have B1 : Hid (Below W.heap.size W w1) := on b0 b1
  clear V0 V1 b0 b1
  go_enter Try.func6, Try.ntmps6
  go_wp2_with fail
  refine (alive4_u _).mono ?_
  rintro e w2 ⟨rfl, b2⟩
  have S2 := VS.out.below b2
  have T2 := VT.out.below b2
  have cs0 := S2.cell (j := 0) rfl
  have cs1 := S2.cell (j := 1) rfl
  have cs2 := S2.cell (j := 2) rfl
  have cs3 := S2.cell (j := 3) rfl
  have cs4 := S2.cell (j := 4) rfl
  have cs5 := S2.cell (j := 5) rfl
  have cs6 := S2.cell (j := 6) rfl
  have ct0 := T2.cell (j := 0) rfl
  have ct1 := T2.cell (j := 1) rfl
  have ct2 := T2.cell (j := 2) rfl
  have ct3 := T2.cell (j := 3) rfl
  have ct4 := T2.cell (j := 4) rfl
  have ct5 := T2.cell (j := 5) rfl
  have ct6 := T2.cell (j := 6) rfl
  have VS2 : Hid (Row _ _ _ _) := S2
  have VT2 : Hid (Row _ _ _ _) := T2
  have B2 : Hid (Below W.heap.size W w2) := on B1.out b2
  clear S2 T2 b2 VS VT B1 hw0 hw1
  go_wp2_with fail
  cases hs : Sup.ok s
  · refine (encode_no _ _ _ s (Rep.below HS0.out B2.out) hs).mono ?_
    rintro e w3 ⟨rfl, b3⟩
    have B3 : Hid (Below W.heap.size W w3) := on B2.out b3
    have T3 := VT2.out.below b3
    clear cs0 cs1 cs2 cs3 cs4 cs5 cs6
    clear ct0 ct1 ct2 ct3 ct4 ct5 ct6
    have ct0 := T3.cell (j := 0) rfl
    have ct1 := T3.cell (j := 1) rfl
    have ct2 := T3.cell (j := 2) rfl
    have ct3 := T3.cell (j := 3) rfl
    have ct4 := T3.cell (j := 4) rfl
    have ct5 := T3.cell (j := 5) rfl
    have ct6 := T3.cell (j := 6) rfl
    clear T3 b3 B2 VS2 VT2
    go_wp2_with fail
    refine (encode_u _ _ _ t (Rep.below HT0.out B3.out)).mono ?_
    rintro e w4 ⟨ya, yn, yc, rfl, ho4, b4⟩
    have B4 : Hid (Below W.heap.size W w4) := on B3.out b4
    clear ho4 b4 B3
    go_wp2
    go_ret
    exact ⟨rfl, B4.out⟩
  · refine (encode_ok _ _ _ s (Rep.below HS0.out B2.out) hs).mono ?_
    rintro e w3 ⟨xa, xc, rfl, ho3, b3⟩
    have B3 : Hid (Below W.heap.size W w3) := on B2.out b3
    have S3 := VS2.out.below b3
    have T3 := VT2.out.below b3
    obtain ⟨hX, hXc, hXn⟩ := owns_isB ho3
    have HX : Hid (IsB _ _ _ _) := hX
    have HXc : Hid _ := hXc
    have HXn : Hid _ := hXn
    have HOKs : Hid _ := hs
    clear cs0 cs1 cs2 cs3 cs4 cs5 cs6
    clear ct0 ct1 ct2 ct3 ct4 ct5 ct6
    have cs0 := S3.cell (j := 0) rfl
    have cs1 := S3.cell (j := 1) rfl
    have cs2 := S3.cell (j := 2) rfl
    have cs3 := S3.cell (j := 3) rfl
    have cs4 := S3.cell (j := 4) rfl
    have cs5 := S3.cell (j := 5) rfl
    have cs6 := S3.cell (j := 6) rfl
    have ct0 := T3.cell (j := 0) rfl
    have ct1 := T3.cell (j := 1) rfl
    have ct2 := T3.cell (j := 2) rfl
    have ct3 := T3.cell (j := 3) rfl
    have ct4 := T3.cell (j := 4) rfl
    have ct5 := T3.cell (j := 5) rfl
    have ct6 := T3.cell (j := 6) rfl
    have HLT : Hid (W.heap.size < w3.heap.size) := S3.lt
    have VS3 : Hid (Row _ _ _ _) := S3
    have VT3 : Hid (Row _ _ _ _) := T3
    clear hX ho3 S3 T3 b3 B2 VS2 VT2 hs hXc hXn
    go_wp2_with fail
    cases ht : Sup.ok t
    · refine (encode_no _ _ _ t (Rep.below HT0.out B3.out) ht).mono ?_
      rintro e w4 ⟨rfl, b4⟩
      have B4 : Hid (Below W.heap.size W w4) := on B3.out b4
      clear b4 B3 VS3 VT3
      go_wp2
      go_ret
      exact ⟨rfl, B4.out⟩
    · refine (encode_ok _ _ _ t (Rep.below HT0.out B3.out) ht).mono ?_
      rintro e w4 ⟨ya, yc, rfl, ho4, b4⟩
      have B4 : Hid (Below W.heap.size W w4) := on B3.out b4
      have VS4 : Hid (Row _ _ _ _) := VS3.out.below b4
      have VT4 : Hid (Row _ _ _ _) := VT3.out.below b4
      have B34 : Hid (Below w3.heap.size w3 w4) := b4
      obtain ⟨hY, hYc, hYn⟩ := owns_isB ho4
      have HY : Hid (IsB _ _ _ _) := hY
      have HYc : Hid _ := hYc
      have HYn : Hid _ := hYn
      have HO4 : Hid (w4.ownsRow w3.heap.size 5 1 (.slice ya 64 yc) 64 (cellsOf (Sup.enc t))) := ho4
      have HOKt : Hid _ := ht
      clear cs0 cs1 cs2 cs3 cs4 cs5 cs6
      clear ct0 ct1 ct2 ct3 ct4 ct5 ct6
      clear hY ho4 b4 VS3 VT3 ht hYc hYn
      have HNW : Hid _ := Sup.newest_two HOKs.out HOKt.out
      go_wp2_with fail
      refine (num4_u _ _).mono ?_
      rintro e w9 ⟨rfl, rfl⟩
      go_wp2_with fail
      refine (num4_u _ _).mono ?_
      rintro e w9 ⟨rfl, rfl⟩
      go_wp2_with fail
      refine (newest_u _ xa ya 64 xc 64 yc _ _ (by decide) HXc.out HXn.out (HX.out.below B34.out) (by decide) HYc.out HYn.out HY.out).mono ?_
      rintro e w5 ⟨rfl, b5⟩
      rw [HNW.out.1, HNW.out.2.1, HNW.out.2.2]
      have B45 : Hid (Below w4.heap.size w4 w5) := b5
      clear HNW b5
      by_cases hlt : s.1 < t.1
      · rw [if_pos hlt, if_pos hlt, show (cells7 t).toArray = #[.int .i64 t.1, .int .i64 t.2.1, .int .i64 t.2.2.1, .int .i64 t.2.2.2.1, .int .i64 t.2.2.2.2.1, .int .i64 t.2.2.2.2.2.1, .int .i64 t.2.2.2.2.2.2] from rfl]
        obtain ⟨w6, hw6, VX, b6, -⟩ := boxedRow w5 29 [.int .i64 t.1, .int .i64 t.2.1, .int .i64 t.2.2.1, .int .i64 t.2.2.2.1, .int .i64 t.2.2.2.2.1, .int .i64 t.2.2.2.2.2.1, .int .i64 t.2.2.2.2.2.2]
        have B46 : Hid (Below w4.heap.size w4 w6) := on B45.out b6
        have B6 : Hid (Below W.heap.size W w6) := on B4.out B46.out
        have S6 := VS4.out.below B46.out
        have T6 := VT4.out.below B46.out
        have cs0 := S6.cell (j := 0) rfl
        have cs1 := S6.cell (j := 1) rfl
        have cs2 := S6.cell (j := 2) rfl
        have cs3 := S6.cell (j := 3) rfl
        have cs4 := S6.cell (j := 4) rfl
        have cs5 := S6.cell (j := 5) rfl
        have cs6 := S6.cell (j := 6) rfl
        have ct0 := T6.cell (j := 0) rfl
        have ct1 := T6.cell (j := 1) rfl
        have ct2 := T6.cell (j := 2) rfl
        have ct3 := T6.cell (j := 3) rfl
        have ct4 := T6.cell (j := 4) rfl
        have ct5 := T6.cell (j := 5) rfl
        have ct6 := T6.cell (j := 6) rfl
        have cx0 := VX.cell (j := 0) rfl
        have cx1 := VX.cell (j := 1) rfl
        have cx2 := VX.cell (j := 2) rfl
        have cx3 := VX.cell (j := 3) rfl
        have cx4 := VX.cell (j := 4) rfl
        have cx5 := VX.cell (j := 5) rfl
        have cx6 := VX.cell (j := 6) rfl
        have VS6 : Hid (Row _ _ _ _) := S6
        clear S6 T6 VX b6 VS4 VT4 B4 HY HYc HYn
        by_cases hT : T = 0
        · subst hT
          go_wp2
          go_ret
          exact ⟨rfl, B6.out⟩
        · have hne : ((T.toNat : Int) == 0) = false := beq_eq_false_iff_ne.2 (fun h => hT (UInt8.toNat_inj.1 (by simpa using h)))
          have HT : Hid _ := hT
          clear hT
          obtain ⟨g, rfl, hg⟩ := owns_row64 HO4.out
          have HG : Hid (w3.heap.size ≤ g) := hg
          obtain ⟨K, hK, hKe⟩ := turn_at at_
          have hl := Sup.enc_length HOKt.out
          have ho6 := owns_below HO4.out B46.out
          have hcell := owned_cell ho6 (i := K) (by omega)
          have hfro := owned_frozen ho6 (i := K)
          have ho7 := store_xor T (i := K) (by omega) ho6
          have HB7 : Hid (Below W.heap.size W (w6.setCell ⟨g, K, none⟩ (.int .u8 (bits BinOp.xor IntKind.u8 (((Sup.enc t).getD K 0).toNat : Int) (T.toNat : Int))))) := B6.out.setCell (p := ⟨g, K, none⟩) (by have := HG.out; have := HLT.out; show W.heap.size ≤ g; omega) _
          have HX7 : Hid (IsB (w6.setCell ⟨g, K, none⟩ (.int .u8 (bits BinOp.xor IntKind.u8 (((Sup.enc t).getD K 0).toNat : Int) (T.toNat : Int)))) xa 64 (Sup.enc s)) := HX.out.below ((on B34.out B46.out).setCell (p := ⟨g, K, none⟩) HG.out _)
          have VS7 : Hid (Row (w6.setCell ⟨g, K, none⟩ (.int .u8 (bits BinOp.xor IntKind.u8 (((Sup.enc t).getD K 0).toNat : Int) (T.toNat : Int)))) W.heap.size 23 [.int .i64 s.1, .int .i64 s.2.1, .int .i64 s.2.2.1, .int .i64 s.2.2.2.1, .int .i64 s.2.2.2.2.1, .int .i64 s.2.2.2.2.2.1, .int .i64 s.2.2.2.2.2.2]) := VS6.out.kept ((Kept.refl (· ≠ g) w6).setCell (p := ⟨g, K, none⟩) (fun h => h rfl) _) (by have := HG.out; have := HLT.out; omega)
          obtain ⟨hY, hYc, hYn⟩ := owns_isB ho7
          have HY : Hid (IsB _ _ _ _) := hY
          have HNS : Hid _ := Sup.newest_spoilt HOKs.out (Sup.decode_turned HOKt.out K hK T HT.out).1
          clear ho6 ho7 hY hg hl
          go_wp2_with (first
            | (go_at_call 17; refine (num4_u _ _).mono ?_; rintro e w9 ⟨rfl, rfl⟩)
            | (go_at_call 14
               refine (newest_u _ _ xa 64 yc 64 xc _ _ (by decide) hYc hYn HY.out (by decide) HXc.out HXn.out HX7.out).mono ?_
               rintro e w8 ⟨rfl, b8⟩
               rw [HNS.out.1, HNS.out.2.1, HNS.out.2.2, show (cells7 s).toArray = #[.int .i64 s.1, .int .i64 s.2.1, .int .i64 s.2.2.1, .int .i64 s.2.2.2.1, .int .i64 s.2.2.2.2.1, .int .i64 s.2.2.2.2.2.1, .int .i64 s.2.2.2.2.2.2] from rfl]
               obtain ⟨w9, hw9, VY, b9, -⟩ := boxedRow w8 29 [.int .i64 s.1, .int .i64 s.2.1, .int .i64 s.2.2.1, .int .i64 s.2.2.2.1, .int .i64 s.2.2.2.2.1, .int .i64 s.2.2.2.2.2.1, .int .i64 s.2.2.2.2.2.2]
               have S9 := (VS7.out.below b8).below b9
               have B9 : Hid (Below W.heap.size W w9) := on (on HB7.out b8) b9
               clear cs0 cs1 cs2 cs3 cs4 cs5 cs6
               clear ct0 ct1 ct2 ct3 ct4 ct5 ct6
               clear cx0 cx1 cx2 cx3 cx4 cx5 cx6
               have cs0 := S9.cell (j := 0) rfl
               have cs1 := S9.cell (j := 1) rfl
               have cs2 := S9.cell (j := 2) rfl
               have cs3 := S9.cell (j := 3) rfl
               have cs4 := S9.cell (j := 4) rfl
               have cs5 := S9.cell (j := 5) rfl
               have cs6 := S9.cell (j := 6) rfl
               have cy0 := VY.cell (j := 0) rfl
               have cy1 := VY.cell (j := 1) rfl
               have cy2 := VY.cell (j := 2) rfl
               have cy3 := VY.cell (j := 3) rfl
               have cy4 := VY.cell (j := 4) rfl
               have cy5 := VY.cell (j := 5) rfl
               have cy6 := VY.cell (j := 6) rfl
               clear S9 VY b8 b9 hcell hfro HY hYn hYc HB7 VS7 VS6 HX7))
          go_ret
          exact ⟨rfl, B9.out⟩
      · rw [if_neg hlt, if_neg hlt, show (cells7 s).toArray = #[.int .i64 s.1, .int .i64 s.2.1, .int .i64 s.2.2.1, .int .i64 s.2.2.2.1, .int .i64 s.2.2.2.2.1, .int .i64 s.2.2.2.2.2.1, .int .i64 s.2.2.2.2.2.2] from rfl]
        obtain ⟨w6, hw6, VX, b6, -⟩ := boxedRow w5 29 [.int .i64 s.1, .int .i64 s.2.1, .int .i64 s.2.2.1, .int .i64 s.2.2.2.1, .int .i64 s.2.2.2.2.1, .int .i64 s.2.2.2.2.2.1, .int .i64 s.2.2.2.2.2.2]
        have B46 : Hid (Below w4.heap.size w4 w6) := on B45.out b6
        have B6 : Hid (Below W.heap.size W w6) := on B4.out B46.out
        have S6 := VS4.out.below B46.out
        have T6 := VT4.out.below B46.out
        have cs0 := S6.cell (j := 0) rfl
        have cs1 := S6.cell (j := 1) rfl
        have cs2 := S6.cell (j := 2) rfl
        have cs3 := S6.cell (j := 3) rfl
        have cs4 := S6.cell (j := 4) rfl
        have cs5 := S6.cell (j := 5) rfl
        have cs6 := S6.cell (j := 6) rfl
        have ct0 := T6.cell (j := 0) rfl
        have ct1 := T6.cell (j := 1) rfl
        have ct2 := T6.cell (j := 2) rfl
        have ct3 := T6.cell (j := 3) rfl
        have ct4 := T6.cell (j := 4) rfl
        have ct5 := T6.cell (j := 5) rfl
        have ct6 := T6.cell (j := 6) rfl
        have cx0 := VX.cell (j := 0) rfl
        have cx1 := VX.cell (j := 1) rfl
        have cx2 := VX.cell (j := 2) rfl
        have cx3 := VX.cell (j := 3) rfl
        have cx4 := VX.cell (j := 4) rfl
        have cx5 := VX.cell (j := 5) rfl
        have cx6 := VX.cell (j := 6) rfl
        have VS6 : Hid (Row _ _ _ _) := S6
        clear S6 T6 VX b6 VS4 VT4 B4 HY HYc HYn
        have hle : t.1 ≤ s.1 := by omega
        by_cases hT : T = 0
        · subst hT
          go_wp2
          go_ret
          exact ⟨rfl, B6.out⟩
        · have hne : ((T.toNat : Int) == 0) = false := beq_eq_false_iff_ne.2 (fun h => hT (UInt8.toNat_inj.1 (by simpa using h)))
          have HT : Hid _ := hT
          clear hT
          obtain ⟨g, rfl, hg⟩ := owns_row64 HO4.out
          have HG : Hid (w3.heap.size ≤ g) := hg
          obtain ⟨K, hK, hKe⟩ := turn_at at_
          have hl := Sup.enc_length HOKt.out
          have ho6 := owns_below HO4.out B46.out
          have hcell := owned_cell ho6 (i := K) (by omega)
          have hfro := owned_frozen ho6 (i := K)
          have ho7 := store_xor T (i := K) (by omega) ho6
          have HB7 : Hid (Below W.heap.size W (w6.setCell ⟨g, K, none⟩ (.int .u8 (bits BinOp.xor IntKind.u8 (((Sup.enc t).getD K 0).toNat : Int) (T.toNat : Int))))) := B6.out.setCell (p := ⟨g, K, none⟩) (by have := HG.out; have := HLT.out; show W.heap.size ≤ g; omega) _
          have HX7 : Hid (IsB (w6.setCell ⟨g, K, none⟩ (.int .u8 (bits BinOp.xor IntKind.u8 (((Sup.enc t).getD K 0).toNat : Int) (T.toNat : Int)))) xa 64 (Sup.enc s)) := HX.out.below ((on B34.out B46.out).setCell (p := ⟨g, K, none⟩) HG.out _)
          have VS7 : Hid (Row (w6.setCell ⟨g, K, none⟩ (.int .u8 (bits BinOp.xor IntKind.u8 (((Sup.enc t).getD K 0).toNat : Int) (T.toNat : Int)))) W.heap.size 23 [.int .i64 s.1, .int .i64 s.2.1, .int .i64 s.2.2.1, .int .i64 s.2.2.2.1, .int .i64 s.2.2.2.2.1, .int .i64 s.2.2.2.2.2.1, .int .i64 s.2.2.2.2.2.2]) := VS6.out.kept ((Kept.refl (· ≠ g) w6).setCell (p := ⟨g, K, none⟩) (fun h => h rfl) _) (by have := HG.out; have := HLT.out; omega)
          obtain ⟨hY, hYc, hYn⟩ := owns_isB ho7
          have HY : Hid (IsB _ _ _ _) := hY
          have HNS : Hid _ := Sup.newest_spoilt HOKs.out (Sup.decode_turned HOKt.out K hK T HT.out).1
          clear ho6 ho7 hY hg hl
          go_wp2_with (first
            | (go_at_call 17; refine (num4_u _ _).mono ?_; rintro e w9 ⟨rfl, rfl⟩)
            | (go_at_call 14
               refine (newest_u _ _ xa 64 yc 64 xc _ _ (by decide) hYc hYn HY.out (by decide) HXc.out HXn.out HX7.out).mono ?_
               rintro e w8 ⟨rfl, b8⟩
               rw [HNS.out.1, HNS.out.2.1, HNS.out.2.2, show (cells7 s).toArray = #[.int .i64 s.1, .int .i64 s.2.1, .int .i64 s.2.2.1, .int .i64 s.2.2.2.1, .int .i64 s.2.2.2.2.1, .int .i64 s.2.2.2.2.2.1, .int .i64 s.2.2.2.2.2.2] from rfl]
               obtain ⟨w9, hw9, VY, b9, -⟩ := boxedRow w8 29 [.int .i64 s.1, .int .i64 s.2.1, .int .i64 s.2.2.1, .int .i64 s.2.2.2.1, .int .i64 s.2.2.2.2.1, .int .i64 s.2.2.2.2.2.1, .int .i64 s.2.2.2.2.2.2]
               have S9 := (VS7.out.below b8).below b9
               have B9 : Hid (Below W.heap.size W w9) := on (on HB7.out b8) b9
               clear cs0 cs1 cs2 cs3 cs4 cs5 cs6
               clear ct0 ct1 ct2 ct3 ct4 ct5 ct6
               clear cx0 cx1 cx2 cx3 cx4 cx5 cx6
               have cs0 := S9.cell (j := 0) rfl
               have cs1 := S9.cell (j := 1) rfl
               have cs2 := S9.cell (j := 2) rfl
               have cs3 := S9.cell (j := 3) rfl
               have cs4 := S9.cell (j := 4) rfl
               have cs5 := S9.cell (j := 5) rfl
               have cs6 := S9.cell (j := 6) rfl
               have cy0 := VY.cell (j := 0) rfl
               have cy1 := VY.cell (j := 1) rfl
               have cy2 := VY.cell (j := 2) rfl
               have cy3 := VY.cell (j := 3) rfl
               have cy4 := VY.cell (j := 4) rfl
               have cy5 := VY.cell (j := 5) rfl
               have cy6 := VY.cell (j := 6) rfl
               clear S9 VY b8 b9 hcell hfro HY hYn hYc HB7 VS7 VS6 HX7))
          go_ret
          exact ⟨rfl, B9.out⟩

set_option maxRecDepth 100000 in
theorem snewer_lifted (os : Os) (started : os.Started) (H : Type) (enc : TypeId × Value → H) :
    ReturnsInHanded {} Try.checked os 6 .any (Rows.superNewerSpec.pre6 enc Try.prog Try.f6 Rows.superNewerRow.domain false) (Rows.superNewerSpec.post enc Try.prog Try.f6 false true false false) := by
  refine returnsInHanded_of_change_sized (C := Try.checked) own started (by kernel_rfl) Try.func6
    (ChangeSpec.witness6 (enc := enc) (C := Try.checked) false ⟨#[], #[.agg #[.int .i64 0, .int .i64 0, .int .i64 0, .int .i64 0, .int .i64 0, .int .i64 0, .int .i64 0], .agg #[.int .i64 0, .int .i64 0, .int .i64 0, .int .i64 0, .int .i64 0, .int .i64 0, .int .i64 0], .int .i64 0, .int .u8 0], []⟩ 8 (by kernel_rfl) (by kernel_rfl) (by kernel_rfl) (by kernel_rfl)) ?_
  intro W base args ds gs before hval0 hW _ hsz0 _
  have hsz : (DataW.weightsEach Try.prog (Try.f6.params.toList ++ Rows.superNewerSpec.plain.varTypes Try.prog) (ds ++ gs)).all (· ≤ reachBytes) = true := hsz0
  clear hsz0
  have hval : ∀ (j : Nat) t v, Try.f6.params[j]? = some t → args[j]? = some v → Value.okWide Try.prog W .any base t v := hval0
  have hW' := hW
  obtain ⟨p, q, hA0, hV, rfl, hfz, hnd⟩ := hW
  have hA : DataW.TrodAll enc Try.prog W 0 (fun _ => true) true Try.f6.params.toList args.toList ds p := hA0
  rw [Try.params6] at hA hval hsz
  obtain ⟨v0, vs0, d0, ds0, p0, q0, hargs, rfl, rfl, h0, r0⟩ := trodAll_cons hA
  obtain ⟨v1, vs1, d1, ds1, p1, q1, rfl, rfl, rfl, h1, r1⟩ := trodAll_cons r0
  obtain ⟨v2, vs2, d2, ds2, p2, q2, rfl, rfl, rfl, h2, r2⟩ := trodAll_cons r1
  obtain ⟨v3, vs3, d3, ds3, p3, q3, rfl, rfl, rfl, h3, r3⟩ := trodAll_cons r2
  obtain ⟨rfl, rfl, rfl⟩ := trodAll_nil r3
  obtain rfl : args = #[v0, v1, v2, v3] := by cases args; simp_all
  obtain ⟨rfl, rfl⟩ := trodVars_none hV
  obtain ⟨c0, rfl, -⟩ := okWide_struct Try.underlying23 (hval 0 23 v0 rfl rfl)
  have k0 := h0
  have lt0 : ∀ x ∈ p0, x.block < W.heap.size := by obtain ⟨m, hm⟩ := k0; exact DataW.trod_lt m _ _ _ hm
  obtain ⟨x0, hx0⟩ := opens_super.arg h0 hsz (j := 0) rfl rfl
  obtain ⟨c1, rfl, -⟩ := okWide_struct Try.underlying23 (hval 1 23 v1 rfl rfl)
  have k1 := h1
  have lt1 : ∀ x ∈ p1, x.block < W.heap.size := by obtain ⟨m, hm⟩ := k1; exact DataW.trod_lt m _ _ _ hm
  obtain ⟨x1, hx1⟩ := opens_super.arg h1 hsz (j := 1) rfl rfl
  obtain ⟨a2, rfl, rfl, rfl, w2⟩ := open_int Try.underlying3 (hval 2 3 v2 rfl rfl) h2
  have i2 := bounds_i64 w2
  obtain ⟨a3, rfl, rfl, rfl, w3⟩ := open_int Try.underlying5 (hval 3 5 v3 rfl rfl) h3
  have i3 := bounds_u8 w3
  clear hA0 hval0
  refine (snewer_walk c0.toList x0 c1.toList x1 a2 a3 W hx0 hx1 (by omega) (by omega) (by omega) (by omega)).mono fun e W' ⟨he, bel⟩ => ?_
  subst he
  exact ⟨_, rfl, _, _, _, [], _, [], hW', trodAll_mk1 (shut_bool Try.underlying4 _), (trodAll_cons_mk (Below.trod laidOut (by kernel_rfl) (of_decide_eq_true (by kernel_rfl)) k0 bel lt0) (trodAll_cons_mk (Below.trod laidOut (by kernel_rfl) (of_decide_eq_true (by kernel_rfl)) k1 bel lt1) (trodAll_cons_mk (shut_int Try.underlying3 w2) (trodAll_cons_mk (shut_int Try.underlying5 w3) trodAll_mk0)))), rfl, bel.frame _, fun h => by cases h⟩

theorem superNewer_holds : Rows.SuperNewerSaid :=
  OpenClaim.holds_of_wide 6 Try.f6 rfl rfl rfl rfl rfl rfl rfl ⟨rfl, rfl, rfl, rfl, rfl⟩ rfl rfl rfl rfl rfl (by kernel_rfl) Try.func6 (by kernel_rfl)
    (of_decide_eq_true (by kernel_rfl)) (by unfold Func.isWrapper; first | (rw [if_pos (by decide +kernel)]; kernel_rfl) | (rw [if_neg (by decide +kernel)]; exact ⟨rfl, rfl⟩))
    (fun os started H enc _ => snewer_lifted os started H enc)

end Go.Proofs.Ytdgnkpmjjapmpaa
