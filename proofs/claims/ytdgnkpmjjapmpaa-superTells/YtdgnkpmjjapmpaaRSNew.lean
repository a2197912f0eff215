/-
  The contract of the document's own Newest of two sectors. Conditions: those that each contract names.
-/
import Derived.Test.YtdgnkpmjjapmpaaRSDec2
namespace Go.Proofs.Ytdgnkpmjjapmpaa
open Go.RowKit
set_option linter.unusedVariables false

namespace Sup
theorem newest_none {a b : List UInt8} (ha : decodeE a ≠ 0) (hb : decodeE b ≠ 0) : newestE a b = 21 ∧ newestS a b = zero ∧ newestN a b = 0 := by
  have hE : newestE a b = 21 := by unfold newestE; rw [if_pos ⟨ha, hb⟩]
  refine ⟨hE, ?_, ?_⟩
  · unfold newestS; rw [if_neg (by rw [hE]; decide)]
  · unfold newestN; rw [if_neg (by rw [hE]; decide)]

theorem newest_b {a b : List UInt8} (hb : decodeE b = 0) (h : decodeE a ≠ 0 ∨ (decodeS a).1 < (decodeS b).1) : newestE a b = 0 ∧ newestS a b = decodeS b ∧ newestN a b = 1 := by
  have hE : newestE a b = 0 := by unfold newestE; rw [if_neg (fun h => h.2 hb)]
  have h2 : second a b = true := by
    unfold second
    rcases h with h | h
    · simp [h]
    · simp [hb, h]
  refine ⟨hE, ?_, ?_⟩
  · unfold newestS; rw [if_pos hE, h2, if_pos rfl]
  · unfold newestN; rw [if_pos hE, h2, if_pos rfl]

theorem newest_a {a b : List UInt8} (ha : decodeE a = 0) (h : decodeE b ≠ 0 ∨ ¬ (decodeS a).1 < (decodeS b).1) : newestE a b = 0 ∧ newestS a b = decodeS a ∧ newestN a b = 0 := by
  have hE : newestE a b = 0 := by unfold newestE; rw [if_neg (fun h => h.1 ha)]
  have h2 : second a b = false := by
    unfold second
    rcases h with h | h
    · simp [ha, h]
    · simp [ha, h]
  refine ⟨hE, ?_, ?_⟩
  · unfold newestS; rw [if_pos hE, h2, if_neg (by decide)]
  · unfold newestN; rw [if_pos hE, h2, if_neg (by decide)]
end Sup

set_option maxHeartbeats 8000000 in
theorem refNewest_u (w : World) (a b : Option Addr) (n c m d : Nat) (la lb : List UInt8) (hn : n ≤ 140737488351232) (hc : n ≤ c) (hA : IsB w a n la) (hm : m ≤ 140737488351232) (hd : m ≤ d) (hB : IsB w b m lb) :
    Calls Try.prog 15 #[.slice a n c, .slice b m d] w fun e w' => e = .returned (.tuple #[.agg (cells7 (Sup.newestS la lb)).toArray, .int .i64 (Sup.newestN la lb), .int .i64 (Sup.newestE la lb)]) ∧ Below w.heap.size w w' := by
  have HA : Hid (IsB _ _ _ _) := hA
  have HB : Hid (IsB _ _ _ _) := hB
  have Hn : Hid _ := hn
  have Hc : Hid _ := hc
  have Hm : Hid _ := hm
  have Hd : Hid _ := hd
  clear hA hB hn hc hm hd
  obtain ⟨w0, hw0, V0, b0, -⟩ := boxedRow w 23 [.int .i64 0, .int .i64 0, .int .i64 0, .int .i64 0, .int .i64 0, .int .i64 0, .int .i64 0]
  have HV0 : Hid (Row _ _ _ _) := V0
  have B0 : Hid (Below w.heap.size w w0) := b0
  clear V0 b0
  go_enter Try.func15, Try.ntmps15
  go_wp2_with fail
  refine (refDecode_u _ a n c la Hn.out Hc.out (HA.out.below B0.out)).mono ?_
  rintro e w1 ⟨rfl, b1⟩
  obtain ⟨X, hX⟩ : ∃ X, X = Sup.decodeS la := ⟨_, rfl⟩
  rw [← hX, show (cells7 X).toArray = #[.int .i64 X.1, .int .i64 X.2.1, .int .i64 X.2.2.1, .int .i64 X.2.2.2.1, .int .i64 X.2.2.2.2.1, .int .i64 X.2.2.2.2.2.1, .int .i64 X.2.2.2.2.2.2] from rfl]
  have HX : Hid _ := hX
  obtain ⟨w2, hw2, VX, b2, -⟩ := boxedRow w1 23 [.int .i64 X.1, .int .i64 X.2.1, .int .i64 X.2.2.1, .int .i64 X.2.2.2.1, .int .i64 X.2.2.2.2.1, .int .i64 X.2.2.2.2.2.1, .int .i64 X.2.2.2.2.2.2]
  have HV2 : Hid (Row _ _ _ _) := (HV0.out.below b1).below b2
  have B2 : Hid (Below w.heap.size w w2) := on (on B0.out b1) b2
  have HVX : Hid (Row _ _ _ _) := VX
  clear hX VX b1 b2 hw0 HV0 B0
  go_wp2_with fail
  refine (refDecode_u _ b m d lb Hm.out Hd.out (HB.out.below B2.out)).mono ?_
  rintro e w3 ⟨rfl, b3⟩
  obtain ⟨Y, hY⟩ : ∃ Y, Y = Sup.decodeS lb := ⟨_, rfl⟩
  rw [← hY, show (cells7 Y).toArray = #[.int .i64 Y.1, .int .i64 Y.2.1, .int .i64 Y.2.2.1, .int .i64 Y.2.2.2.1, .int .i64 Y.2.2.2.2.1, .int .i64 Y.2.2.2.2.2.1, .int .i64 Y.2.2.2.2.2.2] from rfl]
  have HY : Hid _ := hY
  obtain ⟨w4, hw4, VY, b4, -⟩ := boxedRow w3 23 [.int .i64 Y.1, .int .i64 Y.2.1, .int .i64 Y.2.2.1, .int .i64 Y.2.2.2.1, .int .i64 Y.2.2.2.2.1, .int .i64 Y.2.2.2.2.2.1, .int .i64 Y.2.2.2.2.2.2]
  have V4 := (HV2.out.below b3).below b4
  have X4 := (HVX.out.below b3).below b4
  have B4 : Hid (Below w.heap.size w w4) := on (on B2.out b3) b4
  have c0 := V4.cell (j := 0) rfl
  have c1 := V4.cell (j := 1) rfl
  have c2 := V4.cell (j := 2) rfl
  have c3 := V4.cell (j := 3) rfl
  have c4 := V4.cell (j := 4) rfl
  have c5 := V4.cell (j := 5) rfl
  have c6 := V4.cell (j := 6) rfl
  have f0 := V4.frozen 0
  have f1 := V4.frozen 1
  have f2 := V4.frozen 2
  have f3 := V4.frozen 3
  have f4 := V4.frozen 4
  have f5 := V4.frozen 5
  have f6 := V4.frozen 6
  have cx0 := X4.cell (j := 0) rfl
  have cx1 := X4.cell (j := 1) rfl
  have cx2 := X4.cell (j := 2) rfl
  have cx3 := X4.cell (j := 3) rfl
  have cx4 := X4.cell (j := 4) rfl
  have cx5 := X4.cell (j := 5) rfl
  have cx6 := X4.cell (j := 6) rfl
  have cy0 := VY.cell (j := 0) rfl
  have cy1 := VY.cell (j := 1) rfl
  have cy2 := VY.cell (j := 2) rfl
  have cy3 := VY.cell (j := 3) rfl
  have cy4 := VY.cell (j := 4) rfl
  have cy5 := VY.cell (j := 5) rfl
  have cy6 := VY.cell (j := 6) rfl
  have HV4 : Hid (Row _ _ _ _) := V4
  clear V4 X4 hY VY b3 b4 hw2 HV2 B2 HVX
  by_cases ha : Sup.decodeE la = 0
  · by_cases hb : Sup.decodeE lb = 0
    · by_cases hlt : X.1 < Y.1
      · have HR : Hid _ := Sup.newest_b (a := la) hb (.inr (by rw [← HX.out, ← HY.out]; exact hlt))
        rw [ha, hb]
        clear ha hb
        go_wp2
        exact sup_ret3 HV4.out B4.out (Nat.le_refl _) _ _ _ _ _ _ _ _ _ rfl rfl rfl rfl Try.underlying23 rfl (by kernel_rfl) (fun w' _ b' => ⟨by rw [HR.out.1, HR.out.2.1, HR.out.2.2, ← HY.out]; rfl, b'⟩)
      · have HR : Hid _ := Sup.newest_a (b := lb) ha (.inr (by rw [← HX.out, ← HY.out]; exact hlt))
        rw [ha, hb]
        clear ha hb
        have hle : Y.1 ≤ X.1 := by omega
        go_wp2
        exact sup_ret3 HV4.out B4.out (Nat.le_refl _) _ _ _ _ _ _ _ _ _ rfl rfl rfl rfl Try.underlying23 rfl (by kernel_rfl) (fun w' _ b' => ⟨by rw [HR.out.1, HR.out.2.1, HR.out.2.2, ← HX.out]; rfl, b'⟩)
    · have HR : Hid _ := Sup.newest_a ha (.inl hb)
      rw [ha]
      have hne : (Sup.decodeE lb == 0) = false := beq_eq_false_iff_ne.2 hb
      have hne2 : (Sup.decodeE lb != 0) = true := bne_iff_ne.2 hb
      clear ha hb
      go_wp2
      exact sup_ret3 HV4.out B4.out (Nat.le_refl _) _ _ _ _ _ _ _ _ _ rfl rfl rfl rfl Try.underlying23 rfl (by kernel_rfl) (fun w' _ b' => ⟨by rw [HR.out.1, HR.out.2.1, HR.out.2.2, ← HX.out]; rfl, b'⟩)
  · have hna : (Sup.decodeE la != 0) = true := bne_iff_ne.2 ha
    by_cases hb : Sup.decodeE lb = 0
    · have HR : Hid _ := Sup.newest_b hb (.inl ha)
      rw [hb]
      clear ha hb
      go_wp2
      exact sup_ret3 HV4.out B4.out (Nat.le_refl _) _ _ _ _ _ _ _ _ _ rfl rfl rfl rfl Try.underlying23 rfl (by kernel_rfl) (fun w' _ b' => ⟨by rw [HR.out.1, HR.out.2.1, HR.out.2.2, ← HY.out]; rfl, b'⟩)
    · have HR : Hid _ := Sup.newest_none ha hb
      have hnb : (Sup.decodeE lb != 0) = true := bne_iff_ne.2 hb
      clear ha hb
      go_wp2
      exact sup_ret3 HV4.out B4.out (Nat.le_refl _) _ _ _ _ _ _ _ _ _ rfl rfl rfl rfl Try.underlying23 rfl (by kernel_rfl) (fun w' _ b' => ⟨by rw [HR.out.1, HR.out.2.1, HR.out.2.2]; rfl, b'⟩)

end Go.Proofs.Ytdgnkpmjjapmpaa
