/-
  The contract of the program's Newest of two sectors. Conditions: those that each contract names.
-/
import Derived.Test.YtdgnkpmjjapmpaaSDec
namespace Go.Proofs.Ytdgnkpmjjapmpaa
open Go.RowKit
set_option linter.unusedVariables false

theorem Row.put7 {w : World} {b : Nat} {t : TypeId} {x0 x1 x2 x3 x4 x5 x6 : Value} (V : Row w b t [x0, x1, x2, x3, x4, x5, x6]) (u0 u1 u2 u3 u4 u5 u6 : Value) :
    Row (((((((w.setCell ⟨b, 0, none⟩ u0).setCell ⟨b, 1, none⟩ u1).setCell ⟨b, 2, none⟩ u2).setCell ⟨b, 3, none⟩ u3).setCell ⟨b, 4, none⟩ u4).setCell ⟨b, 5, none⟩ u5).setCell ⟨b, 6, none⟩ u6) b t [u0, u1, u2, u3, u4, u5, u6] ∧
      Kept (· ≠ b) w (((((((w.setCell ⟨b, 0, none⟩ u0).setCell ⟨b, 1, none⟩ u1).setCell ⟨b, 2, none⟩ u2).setCell ⟨b, 3, none⟩ u3).setCell ⟨b, 4, none⟩ u4).setCell ⟨b, 5, none⟩ u5).setCell ⟨b, 6, none⟩ u6) := by
  obtain ⟨w', hw, V', K'⟩ := V.whole7 u0 u1 u2 u3 u4 u5 u6
  rw [hw]
  exact ⟨V', K'⟩

theorem Row.kept {w w' : World} {g b : Nat} {t : TypeId} {xs : List Value} (h : Row w g t xs) (k : Kept (· ≠ b) w w') (hb : g ≠ b) : Row w' g t xs := h.keep (k.block g hb)

namespace Sup
abbrev St := Super × Int × Bool
def stA (a : List UInt8) : St := if decodeE a = 0 then (decodeS a, 0, true) else (zero, 0, false)
def stB (a b : List UInt8) : St := if decodeE b = 0 ∧ ((stA a).2.2 = false ∨ (stA a).1.1 < (decodeS b).1) then (decodeS b, 1, true) else stA a
def stK (a b : List UInt8) : Nat → St
  | 0 => (zero, 0, false)
  | 1 => stA a
  | _ => stB a b

theorem stA_cases (a : List UInt8) : (decodeE a = 0 ∧ stA a = (decodeS a, 0, true)) ∨ (decodeE a ≠ 0 ∧ stA a = (zero, 0, false)) := by
  unfold stA
  by_cases h : decodeE a = 0
  · exact .inl ⟨h, if_pos h⟩
  · exact .inr ⟨h, if_neg h⟩

theorem newest_st (a b : List UInt8) : ((stB a b).2.2 = true ∧ newestE a b = 0 ∧ newestS a b = (stB a b).1 ∧ newestN a b = (stB a b).2.1) ∨ ((stB a b).2.2 = false ∧ newestE a b = 21 ∧ newestS a b = zero ∧ newestN a b = 0) := by
  have hE : newestE a b = if decodeE a ≠ 0 ∧ decodeE b ≠ 0 then 21 else 0 := by unfold newestE; rfl
  have hs : second a b = (decide (decodeE a ≠ 0) || (decide (decodeE b = 0) && decide ((decodeS a).1 < (decodeS b).1))) := by unfold second; rfl
  have hS1 : newestE a b = 0 → newestS a b = if second a b then decodeS b else decodeS a := fun h => by unfold newestS; rw [if_pos h]
  have hS2 : newestE a b ≠ 0 → newestS a b = zero := fun h => by unfold newestS; rw [if_neg h]
  have hN1 : newestE a b = 0 → newestN a b = if second a b then 1 else 0 := fun h => by unfold newestN; rw [if_pos h]
  have hN2 : newestE a b ≠ 0 → newestN a b = 0 := fun h => by unfold newestN; rw [if_neg h]
  unfold stB
  generalize newestE a b = E at *
  generalize newestS a b = S at *
  generalize newestN a b = N at *
  rcases stA_cases a with ⟨ha, e⟩ | ⟨ha, e⟩
  · rw [e]
    rw [if_neg (fun h => h.1 ha)] at hE
    by_cases hb : decodeE b = 0
    · by_cases hlt : (decodeS a).1 < (decodeS b).1
      · have h2 : second a b = true := by rw [hs]; simp [ha, hb, hlt]
        rw [h2, if_pos rfl] at hS1 hN1
        rw [if_pos ⟨hb, .inr hlt⟩]
        exact .inl ⟨rfl, hE, hS1 hE, hN1 hE⟩
      · have h2 : second a b = false := by rw [hs]; simp [ha, hlt]
        rw [h2, if_neg (by decide)] at hS1 hN1
        rw [if_neg (fun h => h.2.elim (fun g => by cases g) hlt)]
        exact .inl ⟨rfl, hE, hS1 hE, hN1 hE⟩
    · have h2 : second a b = false := by rw [hs]; simp [ha, hb]
      rw [h2, if_neg (by decide)] at hS1 hN1
      rw [if_neg (fun h => hb h.1)]
      exact .inl ⟨rfl, hE, hS1 hE, hN1 hE⟩
  · rw [e]
    have h2 : second a b = true := by rw [hs]; simp [ha]
    rw [h2, if_pos rfl] at hS1 hN1
    by_cases hb : decodeE b = 0
    · rw [if_neg (fun h => h.2 hb)] at hE
      rw [if_pos ⟨hb, .inl rfl⟩]
      exact .inl ⟨rfl, hE, hS1 hE, hN1 hE⟩
    · rw [if_pos ⟨ha, hb⟩] at hE
      rw [if_neg (fun h => hb h.1)]
      exact .inr ⟨rfl, hE, hS2 (by rw [hE]; decide), hN2 (by rw [hE]; decide)⟩
end Sup

set_option maxHeartbeats 8000000 in
theorem newest_u (w : World) (a b : Option Addr) (n c m d : Nat) (la lb : List UInt8) (hn : n ≤ 140737488351232) (hc : n ≤ c) (ha : a = none → c = 0) (hA : IsB w a n la) (hm : m ≤ 140737488351232) (hd : m ≤ d) (hb : b = none → d = 0) (hB : IsB w b m lb) :
    Calls Try.prog 14 #[.slice a n c, .slice b m d] w fun e w' => e = .returned (.tuple #[.agg (cells7 (Sup.newestS la lb)).toArray, .int .i64 (Sup.newestN la lb), .int .i64 (Sup.newestE la lb)]) ∧ Below w.heap.size w w' := by
  have HA : Hid (IsB _ _ _ _) := hA
  have HB : Hid (IsB _ _ _ _) := hB
  have Hn : Hid _ := hn
  have Hc : Hid _ := hc
  have Ha : Hid _ := ha
  have Hm : Hid _ := hm
  have Hd : Hid _ := hd
  have Hb : Hid _ := hb
  clear hA hB hn hc ha hm hd hb
  obtain ⟨w0, hw0, V0, b0, z0⟩ := boxedRow w 29 [.int .i64 0, .int .i64 0, .int .i64 0, .int .i64 0, .int .i64 0, .int .i64 0, .int .i64 0]
  obtain ⟨w1, hw1, V1, b1, z1⟩ := boxedRow w0 73 [.slice a n c, .slice b m d]
  have b2 : Below w1.heap.size w1 (w1.alloc (.cells #[.int .i64 0, .int .i64 0, .int .i64 0, .int .i64 0, .int .i64 0, .int .i64 0, .int .i64 0] 29)) := (Below.refl _ _).alloc (Nat.le_refl _) _
  have c0 := (V1.below b2).cell (j := 0) rfl
  have c1 := (V1.below b2).cell (j := 1) rfl
  have i0 : ∀ w, (Instr.index 73 (.agg #[.slice a n c, .slice b m d]) (.int .i64 0)).run Try.prog w = .ok (.slice a n c) w := fun _ => by kernel_rfl
  have i1 : ∀ w, (Instr.index 73 (.agg #[.slice a n c, .slice b m d]) (.int .i64 1)).run Try.prog w = .ok (.slice b m d) w := fun _ => by kernel_rfl
  have HV0 : Hid (Row (w1.alloc (.cells #[.int .i64 0, .int .i64 0, .int .i64 0, .int .i64 0, .int .i64 0, .int .i64 0, .int .i64 0] 29)) w.heap.size 29 [.int .i64 0, .int .i64 0, .int .i64 0, .int .i64 0, .int .i64 0, .int .i64 0, .int .i64 0]) := (V0.below b1).below b2
  have HV2 : Hid (Row (w1.alloc (.cells #[.int .i64 0, .int .i64 0, .int .i64 0, .int .i64 0, .int .i64 0, .int .i64 0, .int .i64 0] 29)) w1.heap.size 29 [.int .i64 0, .int .i64 0, .int .i64 0, .int .i64 0, .int .i64 0, .int .i64 0, .int .i64 0]) := row_new w1 _ _
  have HB2 : Hid (Below w.heap.size w (w1.alloc (.cells #[.int .i64 0, .int .i64 0, .int .i64 0, .int .i64 0, .int .i64 0, .int .i64 0, .int .i64 0] 29))) := on (on b0 b1) b2
  have HZ : Hid (w1.heap.size = w.heap.size + 2) := (by omega : w1.heap.size = w.heap.size + 2)
  clear V0 V1 b0 b1 b2 z0 z1
  go_enter Try.func14, Try.ntmps14
  go_wp2
  clear hw0 hw1 c0 c1
  go_loopw [9, 10, 20] (fun p f i wr => ∃ (k : Nat) (st : Sup.St), k ≤ 2 ∧ i = .int .i64 k ∧ p = .int .i64 st.2.1 ∧ f = .bool st.2.2 ∧ Hid (st = Sup.stK la lb k) ∧ Hid (Row wr w1.heap.size 29 (cells7 st.1)) ∧ Hid (Row wr w.heap.size 29 [.int .i64 0, .int .i64 0, .int .i64 0, .int .i64 0, .int .i64 0, .int .i64 0, .int .i64 0]) ∧ Hid (Below w.heap.size w wr)) (fun _ _ i _ => 2 - (intOf i).toNat)
  case atStart => exact ⟨0, (Sup.zero, 0, false), by decide, rfl, rfl, rfl, rfl, HV2, HV0, HB2⟩
  case round =>
    obtain ⟨k, st, hk, rfl, rfl, rfl, HS, HN, HV, HW⟩ := hrel
    rcases (show k = 0 ∨ k = 1 ∨ k = 2 by omega) with rfl | rfl | rfl
    · obtain rfl : st = (Sup.zero, 0, false) := HS.out
      go_wp2_with fail
      refine (decode_u _ a n c la Hn.out Hc.out Ha.out (HA.out.below HW.out)).mono ?_
      rintro ey w3 ⟨rfl, bw3⟩
      obtain ⟨D, hD⟩ : ∃ D, D = Sup.decodeS la := ⟨_, rfl⟩
      rw [← hD, show (cells7 D).toArray = #[.int .i64 D.1, .int .i64 D.2.1, .int .i64 D.2.2.1, .int .i64 D.2.2.2.1, .int .i64 D.2.2.2.2.1, .int .i64 D.2.2.2.2.2.1, .int .i64 D.2.2.2.2.2.2] from rfl]
      have HD : Hid _ := hD
      clear hD
      obtain ⟨w4, hw4, S4, b4, -⟩ := boxedRow w3 29 [.int .i64 D.1, .int .i64 D.2.1, .int .i64 D.2.2.1, .int .i64 D.2.2.2.1, .int .i64 D.2.2.2.2.1, .int .i64 D.2.2.2.2.2.1, .int .i64 D.2.2.2.2.2.2]
      have N4 := (HN.out.below bw3).below b4
      have HV4 : Hid (Row _ _ _ _) := (HV.out.below bw3).below b4
      have HW4 : Hid (Below w.heap.size w w4) := on (on HW.out bw3) b4
      have HN4 : Hid (Row _ _ _ _) := N4
      clear bw3 b4 HN HV HW
      have c0 := N4.cell (j := 0) rfl
      have c1 := N4.cell (j := 1) rfl
      have c2 := N4.cell (j := 2) rfl
      have c3 := N4.cell (j := 3) rfl
      have c4 := N4.cell (j := 4) rfl
      have c5 := N4.cell (j := 5) rfl
      have c6 := N4.cell (j := 6) rfl
      have f0 := N4.frozen 0
      have f1 := N4.frozen 1
      have f2 := N4.frozen 2
      have f3 := N4.frozen 3
      have f4 := N4.frozen 4
      have f5 := N4.frozen 5
      have f6 := N4.frozen 6
      have cs0 := S4.cell (j := 0) rfl
      have cs1 := S4.cell (j := 1) rfl
      have cs2 := S4.cell (j := 2) rfl
      have cs3 := S4.cell (j := 3) rfl
      have cs4 := S4.cell (j := 4) rfl
      have cs5 := S4.cell (j := 5) rfl
      have cs6 := S4.cell (j := 6) rfl
      clear N4 S4
      by_cases he : Sup.decodeE la = 0
      · rw [he]
        have HE : Hid _ := he
        clear he
        go_wp2
        have P := HN4.out.put7 (.int .i64 D.1) (.int .i64 D.2.1) (.int .i64 D.2.2.1) (.int .i64 D.2.2.2.1) (.int .i64 D.2.2.2.2.1) (.int .i64 D.2.2.2.2.2.1) (.int .i64 D.2.2.2.2.2.2)
        go_round
        case rel => exact ⟨1, (D, 0, true), by decide, by go_num, by go_num, rfl, (show (D, (0 : Int), true) = Sup.stA la by unfold Sup.stA; rw [if_pos HE.out, HD.out]), P.1, HV4.out.kept P.2 (by have := HZ.out; omega), Kept.belowOf HW4.out P.2 (by have := HZ.out; omega)⟩
        case measure => simp [intOf]
      · have hne : (Sup.decodeE la != 0) = true := bne_iff_ne.2 he
        have HE : Hid _ := he
        clear he
        go_wp2
        go_round
        case rel => exact ⟨1, (Sup.zero, 0, false), by decide, by go_num, rfl, rfl, (show (Sup.zero, (0 : Int), false) = Sup.stA la by unfold Sup.stA; rw [if_neg HE.out]), HN4, HV4, HW4⟩
        case measure => simp [intOf]
    · go_wp2_with fail
      refine (decode_u _ b m d lb Hm.out Hd.out Hb.out (HB.out.below HW.out)).mono ?_
      rintro ey w3 ⟨rfl, bw3⟩
      obtain ⟨D, hD⟩ : ∃ D, D = Sup.decodeS lb := ⟨_, rfl⟩
      rw [← hD, show (cells7 D).toArray = #[.int .i64 D.1, .int .i64 D.2.1, .int .i64 D.2.2.1, .int .i64 D.2.2.2.1, .int .i64 D.2.2.2.2.1, .int .i64 D.2.2.2.2.2.1, .int .i64 D.2.2.2.2.2.2] from rfl]
      have HD : Hid _ := hD
      clear hD
      obtain ⟨w4, hw4, S4, b4, -⟩ := boxedRow w3 29 [.int .i64 D.1, .int .i64 D.2.1, .int .i64 D.2.2.1, .int .i64 D.2.2.2.1, .int .i64 D.2.2.2.2.1, .int .i64 D.2.2.2.2.2.1, .int .i64 D.2.2.2.2.2.2]
      have N4 := (HN.out.below bw3).below b4
      have HV4 : Hid (Row _ _ _ _) := (HV.out.below bw3).below b4
      have HW4 : Hid (Below w.heap.size w w4) := on (on HW.out bw3) b4
      have HN4 : Hid (Row _ _ _ _) := N4
      clear bw3 b4 HN HV HW
      have c0 := N4.cell (j := 0) rfl
      have c1 := N4.cell (j := 1) rfl
      have c2 := N4.cell (j := 2) rfl
      have c3 := N4.cell (j := 3) rfl
      have c4 := N4.cell (j := 4) rfl
      have c5 := N4.cell (j := 5) rfl
      have c6 := N4.cell (j := 6) rfl
      have f0 := N4.frozen 0
      have f1 := N4.frozen 1
      have f2 := N4.frozen 2
      have f3 := N4.frozen 3
      have f4 := N4.frozen 4
      have f5 := N4.frozen 5
      have f6 := N4.frozen 6
      have cs0 := S4.cell (j := 0) rfl
      have cs1 := S4.cell (j := 1) rfl
      have cs2 := S4.cell (j := 2) rfl
      have cs3 := S4.cell (j := 3) rfl
      have cs4 := S4.cell (j := 4) rfl
      have cs5 := S4.cell (j := 5) rfl
      have cs6 := S4.cell (j := 6) rfl
      clear N4 S4
      by_cases he : Sup.decodeE lb = 0
      · rw [he]
        have HE : Hid _ := he
        clear he
        cases hf : st.2.2
        · have HF : Hid _ := hf
          clear hf
          go_wp2
          have P := HN4.out.put7 (.int .i64 D.1) (.int .i64 D.2.1) (.int .i64 D.2.2.1) (.int .i64 D.2.2.2.1) (.int .i64 D.2.2.2.2.1) (.int .i64 D.2.2.2.2.2.1) (.int .i64 D.2.2.2.2.2.2)
          go_round
          case rel => exact ⟨2, (D, 1, true), by decide, by go_num, by go_num, rfl, (show (D, (1 : Int), true) = Sup.stB la lb by have HS1 : st = Sup.stA la := HS.out; unfold Sup.stB; rw [← HS1, if_pos ⟨HE.out, .inl HF.out⟩, HD.out]), P.1, HV4.out.kept P.2 (by have := HZ.out; omega), Kept.belowOf HW4.out P.2 (by have := HZ.out; omega)⟩
          case measure => simp [intOf]
        · by_cases hlt : st.1.1 < D.1
          · have HL : Hid _ := hlt
            have HF : Hid _ := hf
            clear hf
            go_wp2
            have P := HN4.out.put7 (.int .i64 D.1) (.int .i64 D.2.1) (.int .i64 D.2.2.1) (.int .i64 D.2.2.2.1) (.int .i64 D.2.2.2.2.1) (.int .i64 D.2.2.2.2.2.1) (.int .i64 D.2.2.2.2.2.2)
            go_round
            case rel => exact ⟨2, (D, 1, true), by decide, by go_num, by go_num, rfl, (show (D, (1 : Int), true) = Sup.stB la lb by have HS1 : st = Sup.stA la := HS.out; unfold Sup.stB; rw [← HS1, ← HD.out, if_pos ⟨HE.out, .inr HL.out⟩]), P.1, HV4.out.kept P.2 (by have := HZ.out; omega), Kept.belowOf HW4.out P.2 (by have := HZ.out; omega)⟩
            case measure => simp [intOf]
          · have HL : Hid _ := hlt
            have HF : Hid _ := hf
            have hle : D.1 ≤ st.1.1 := by omega
            clear hf hlt
            go_wp2
            go_round
            case rel => exact ⟨2, st, by decide, by go_num, rfl, by rw [HF.out], (show st = Sup.stB la lb by have HS1 : st = Sup.stA la := HS.out; unfold Sup.stB; rw [← HS1, ← HD.out, if_neg (fun h => h.2.elim (fun g => by rw [HF.out] at g; cases g) HL.out)]), HN4, HV4, HW4⟩
            case measure => simp [intOf]
      · have hne : (Sup.decodeE lb != 0) = true := bne_iff_ne.2 he
        have HE : Hid _ := he
        clear he
        go_wp2
        go_round
        case rel => exact ⟨2, st, by decide, by go_num, rfl, rfl, (show st = Sup.stB la lb by have HS1 : st = Sup.stA la := HS.out; unfold Sup.stB; rw [← HS1, if_neg (fun h => HE.out h.1)]), HN4, HV4, HW4⟩
        case measure => simp [intOf]
    · have N4 := HN.out
      have V4 := HV.out
      have cs0 := N4.cell (j := 0) rfl
      have cs1 := N4.cell (j := 1) rfl
      have cs2 := N4.cell (j := 2) rfl
      have cs3 := N4.cell (j := 3) rfl
      have cs4 := N4.cell (j := 4) rfl
      have cs5 := N4.cell (j := 5) rfl
      have cs6 := N4.cell (j := 6) rfl
      have c0 := V4.cell (j := 0) rfl
      have c1 := V4.cell (j := 1) rfl
      have c2 := V4.cell (j := 2) rfl
      have c3 := V4.cell (j := 3) rfl
      have c4 := V4.cell (j := 4) rfl
      have c5 := V4.cell (j := 5) rfl
      have c6 := V4.cell (j := 6) rfl
      have f0 := V4.frozen 0
      have f1 := V4.frozen 1
      have f2 := V4.frozen 2
      have f3 := V4.frozen 3
      have f4 := V4.frozen 4
      have f5 := V4.frozen 5
      have f6 := V4.frozen 6
      clear N4 V4
      rcases Sup.newest_st la lb with ⟨h1, h2, h3, h4⟩ | ⟨h1, h2, h3, h4⟩
      · have hf : st.2.2 = true := by rw [HS.out]; exact h1
        have hS : Hid (Sup.newestS la lb = st.1) := by rw [HS.out]; exact h3
        have hN : Hid (Sup.newestN la lb = st.2.1) := by rw [HS.out]; exact h4
        have hE : Hid _ := h2
        clear h1 h2 h3 h4
        go_wp2
        exact sup_ret3 HV.out HW.out (Nat.le_refl _) _ _ _ _ _ _ _ _ _ rfl rfl rfl rfl Try.underlying29 rfl (by kernel_rfl) (fun w' _ b' => ⟨by rw [hS.out, hN.out, hE.out]; rfl, b'⟩)
      · have hf : st.2.2 = false := by rw [HS.out]; exact h1
        have hS : Hid _ := h3
        have hN : Hid _ := h4
        have hE : Hid _ := h2
        clear h1 h2 h3 h4
        go_wp2
        exact sup_ret3 HV.out HW.out (Nat.le_refl _) _ _ _ _ _ _ _ _ _ rfl rfl rfl rfl Try.underlying29 rfl (by kernel_rfl) (fun w' _ b' => ⟨by rw [hS.out, hN.out, hE.out]; rfl, b'⟩)

end Go.Proofs.Ytdgnkpmjjapmpaa
