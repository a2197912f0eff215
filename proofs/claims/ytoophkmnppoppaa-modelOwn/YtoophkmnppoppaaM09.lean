/-
  Facts that the proof rests on, part 10. Conditions: those that each of them names.
-/
import Derived.Test.YtoophkmnppoppaaM08
namespace Go.Proofs.Ytoophkmnppoppaa
set_option maxHeartbeats 16000000
open Go.RowKit
set_option linter.unusedVariables false
theorem q8X : q6q Try.prog 22 26 rBytes := qBQ (z := .slice none 0 0) Try.underlying22 (by kernel_rfl) rfl rfl rfl (by decide)
theorem elem_nmd : q6q Try.prog 36 55 rNmd := qBQ (z := .agg #[.int .i64 0, .string ByteArray.empty]) Try.underlying36 (by kernel_rfl) rfl rfl rfl (by decide)
theorem q7X {w : World} {P : Nat → Prop} {a : Option Addr} {n c : Nat} {l : List UInt8} (h : rBytes.rd w P [.slice a n c] l) {k : Nat} (hk : k ≤ n) : rBytes.rd w P [.slice a k c] (l.take k) := by
 obtain ⟨a', n', c', e, h1, h2, h3, h4, h5⟩ := h
 simp only [List.cons.injEq, Value.slice.injEq, and_true] at e
 obtain ⟨rfl, rfl, rfl⟩ := e
 refine ⟨a, k, c, rfl, by rw [List.length_take]; omega, by omega, h3, by have : n * 1 ≤ 140737488351232 := h4; show k * 1 ≤ _; omega, fun x hx j hj => ?_⟩
 have hj' : j < l.length := by rw [List.length_take] at hj; omega
 have := h5 x hx j hj'
 rw [List.getElem_take]
 exact this
theorem q7Q {w : World} {P : Nat → Prop} {b off n c : Nat} {l : List UInt8} (h : rBytes.rd w P [.slice (some ⟨b, off, none⟩) n c] l) {k : Nat} (hk : k ≤ n) : rBytes.rd w P [.slice (some ⟨b, off + k, none⟩) (n - k) (c - k)] (l.drop k) := by
 obtain ⟨a', n', c', e, h1, h2, h3, h4, h5⟩ := h
 simp only [List.cons.injEq, Value.slice.injEq, and_true] at e
 obtain ⟨rfl, rfl, rfl⟩ := e
 refine ⟨_, _, _, rfl, by rw [List.length_drop, h1], by omega, (fun e => by cases e), by have : n * 1 ≤ 140737488351232 := h4; show (n - k) * 1 ≤ _; omega, fun x hx j hj => ?_⟩
 simp only [Option.some.injEq] at hx
 subst hx
 have hj' : k + j < l.length := by rw [List.length_drop] at hj; omega
 obtain ⟨hp, cj, g1, g2⟩ := h5 ⟨b, off, none⟩ rfl (k + j) hj'
 refine ⟨hp, cj, by rw [List.getElem_drop]; exact g1, fun r v hv => ?_⟩
 have := g2 r v hv
 rw [Addr.add_lit] at this ⊢
 rw [show off + k + (j * rByte.size + r) = off + ((k + j) * rByte.size + r) from by rw [show rByte.size = 1 from rfl]; omega]
 exact this
theorem q0j (w : World) (P : Nat → Prop) (a : Option Addr) (c : Nat) (h : a = none → c = 0) : rBytes.rd w P [.slice a 0 c] [] := ⟨a, 0, c, rfl, rfl, Nat.zero_le _, h, by decide, fun x hx j hj => by cases hj⟩
theorem Mo.cutN_zero (b : List UInt8) : Mo.cutN 0 b = [] := rfl
theorem Mo.cutN_succ (n : Nat) (b : List UInt8) : Mo.cutN (n + 1) b = Mo.sector (b.take 64) :: Mo.cutN n (b.drop 64) := rfl
theorem Mo.cutN_more : ∀ (k : Nat) (b : List UInt8), Mo.cutN (k + 1) b = Mo.cutN k b ++ [Mo.sector ((b.drop (k * 64)).take 64)]
 | 0, b => by rw [Mo.cutN_succ, Mo.cutN_zero, Mo.cutN_zero, List.nil_append, Nat.zero_mul, List.drop_zero]
 | k + 1, b => by
   have ih := Mo.cutN_more k (b.drop 64)
   have e : 64 + k * 64 = (k + 1) * 64 := by omega
   rw [Mo.cutN_succ (k + 1) b, ih, Mo.cutN_succ k b, List.drop_drop, e]
   rfl
set_option maxRecDepth 20000 in
theorem cut_u (w : World) (P : Nat → Prop) (hP : ∀ b, P b → b < w.heap.size) (b : Nat) (off n c : Nat) (l : List UInt8) (hL : rBytes.rd w P [.slice (some ⟨b, off, none⟩) n c] l) (m : Nat) (hm : n = m * 64) (hm6 : m ≤ 64) :
 Calls Try.prog 48 #[.slice (some ⟨b, off, none⟩) n c] w fun e w' => ∃ a' c', e = .returned (.slice a' m c') ∧ rSectors.rd w' (fun k => P k ∨ w.heap.size ≤ k) [.slice a' m c'] (Mo.cut l) ∧ Below w.heap.size w w' := by
 obtain ⟨hl, hnc, -, -⟩ := q0Q hL
 have HL : Hid (l.length = m * 64) := by unfold Hid; omega
 have HR : Hid (rBytes.rd w P [.slice (some ⟨b, off, none⟩) n c] l) := hL
 have HCut : Hid (Mo.cut l = Mo.cutN m l) := by unfold Hid Mo.cut; rw [hl, hm]; congr 1; omega
 have HP : Hid (∀ b, P b → b < w.heap.size) := hP
 have hn2 : n ≤ 4096 := by omega
 have HM : Hid (n = m * 64) := hm
 have HC : Hid (n ≤ c) := hnc
 clear hL hl hnc hP hm
 go_enter Try.func48, Try.ntmps48
 go_wp2
 go_loopw [0, 3] (fun s o wr => ∃ (k : Nat) (sa : Option Addr) (sn sc : Nat), k ≤ m ∧ s = .slice sa sn sc ∧ sn = (m - k) * 64 ∧ sn ≤ sc ∧ (0 < sn → sa = some ⟨b, off + k * 64, none⟩) ∧ Hid (rBytes.rd w P [.slice sa sn sc] (l.drop (k * 64))) ∧ Hid (OwnsQ rBytes 26 wr w.heap.size (fun q => P q) o (Mo.cutN k l)) ∧ Below w.heap.size w wr) (fun s _ _ => match s with | .slice _ q _ => q | _ => 0)
 case atStart => exact ⟨0, _, n, c, Nat.zero_le _, rfl, by rw [HM.out]; omega, HC.out, fun _ => by rw [Nat.zero_mul, Nat.add_zero], by rw [Nat.zero_mul, List.drop_zero]; exact HR, ⟨[], World.ownsRow_nil w _ _ _, rfl⟩, Below.refl _ _⟩
 case round =>
  obtain ⟨k, sa, sn, sc, hk, rfl, hsn, hsc, hsa, HS, HO, bel⟩ := hrel
  have BW : Hid _ := bel
  have HSn : Hid (sn = (m - k) * 64) := hsn
  have hkM : k < m → 64 ≤ sn := fun h => by omega
  have hkE : k = m → sn = 0 := fun h => by omega
  have hle : sn ≤ 4096 := by omega
  clear hsn
  by_cases hkm : k < m
  · have h64 : 64 ≤ sn := hkM hkm
    clear hkM hkE
    obtain rfl := hsa (by omega)
    have HF : Hid (rBytes.rd wr P [.slice (some ⟨b, off + k * 64, none⟩) 64 sc] ((l.drop (k * 64)).take 64)) := Rep.below (q7X HS.out h64) bel
    have HFW : Hid (rBytes.rd wr (fun q => P q ∧ q < wr.heap.size) [.slice (some ⟨b, off + k * 64, none⟩) 64 sc] ((l.drop (k * 64)).take 64)) := rBytes.weaken HF.out (fun q hq hl => ⟨hq, hl⟩)
    have hsz : (0 : Int) < (sn : Int) := by omega
    have hscz : (64 : Int) ≤ (sc : Int) := by omega
    have hsnz : (64 : Int) ≤ (sn : Int) := by omega
    clear bel
    by_cases hcap : sc = 64
    · have e1 : sn = 64 := by omega
      have HDn : Hid (l.drop ((k + 1) * 64) = []) := List.drop_of_length_le (by rw [HL.out]; have h := HSn.out; unfold Hid at h; omega)
      subst hcap
      subst e1
      cases hz : Mo.allZ ((l.drop (k * 64)).take 64) with
      | true =>
        have HZ : Hid _ := hz
        have HNext : Hid (Mo.cutN (k + 1) l = Mo.cutN k l ++ [[]]) := by unfold Hid; rw [Mo.cutN_more]; unfold Mo.sector; rw [if_pos hz]
        clear hz
        go_wp2_with fail
        refine (q7q wr P _ _ _ ((l.drop (k * 64)).take 64) HF.out true HZ.out).mono ?_
        rintro e w5 ⟨rfl, b5⟩
        obtain ⟨w6, hw6, V6, b6, z6⟩ := q0q w5 26 [.slice none 0 0]
        have hs6 : w.heap.size ≤ w6.heap.size := Nat.le_trans (Nat.le_trans BW.out.size b5.size) b6.size
        obtain ⟨q7, d7, w7, hr7, ho7, g7, -⟩ := q3q (ty := 22) q8X ((HO.out.below b5).below b6) (ad := ⟨w5.heap.size, 0, none⟩) (c := [.slice none 0 0]) (x := []) (fun j u hj => by rw [Addr.add_lit, Nat.zero_add]; exact V6.cell hj) (q0j _ _ _ _ (fun _ => rfl)) (by show _ * 24 ≤ _; rw [Mo.cutN_len]; omega) (by rw [Mo.cutN_len]; unfold maxLen; omega) hs6
        have HR7 : Hid _ := hr7
        have HO7 : Hid (OwnsQ rBytes 26 w7 w.heap.size (fun q => P q) (.slice q7 ((Mo.cutN k l).length + 1) d7) (Mo.cutN (k + 1) l)) := by unfold Hid; rw [HNext.out]; exact ho7
        have B7 : Hid (Below w.heap.size w w7) := ((BW.out.trans (b5.mono BW.out.size)).trans (b6.mono (Nat.le_trans BW.out.size b5.size))).grown g7 hs6 (fun j hj => (HO.out.row j hj).1)
        obtain ⟨v7, hv7⟩ : ∃ v7, v7 = Value.slice q7 ((Mo.cutN k l).length + 1) d7 := ⟨_, rfl⟩
        rw [← hv7] at HR7 HO7
        clear hr7 ho7 g7 hs6 V6 z6 hv7
        go_wp2_with (at_builtin; refine Lib.wpList_append_run _ rfl _ _ _ _ rfl _ _ rfl rfl _ _ HR7.out ?_)
        go_roundw
        case rel => exact ⟨k + 1, _, _, _, by omega, rfl, by have h := HSn.out; unfold Hid at h; omega, by omega, (fun h => by omega), by rw [HDn.out]; exact q0j _ _ _ _ (fun h => by cases h), HO7, B7.out⟩
        case measure => simp
      | false =>
        have HZ : Hid _ := hz
        have HNext : Hid (Mo.cutN (k + 1) l = Mo.cutN k l ++ [(l.drop (k * 64)).take 64]) := by unfold Hid; rw [Mo.cutN_more]; unfold Mo.sector; rw [if_neg (by rw [hz]; exact Bool.false_ne_true)]
        clear hz
        go_wp2_with fail
        refine (q7q wr P _ _ _ ((l.drop (k * 64)).take 64) HF.out false HZ.out).mono ?_
        rintro e w5 ⟨rfl, b5⟩
        obtain ⟨w6, hw6, V6, b6, z6⟩ := q0q w5 26 [.slice (some ⟨b, off + k * 64, none⟩) 64 64]
        have hs6 : w.heap.size ≤ w6.heap.size := Nat.le_trans (Nat.le_trans BW.out.size b5.size) b6.size
        obtain ⟨q7, d7, w7, hr7, ho7, g7, -⟩ := q3q (ty := 22) q8X ((HO.out.below b5).below b6) (ad := ⟨w5.heap.size, 0, none⟩) (c := [.slice (some ⟨b, off + k * 64, none⟩) 64 64]) (x := (l.drop (k * 64)).take 64) (fun j u hj => by rw [Addr.add_lit, Nat.zero_add]; exact V6.cell hj) (rBytes.weaken (Rep.below (Rep.below HFW.out b5) b6) (fun q hq hl => ⟨hq.1, fun e => by have h1 := (HO.out.row q e).1; have h2 := HP.out q hq.1; omega⟩)) (by show _ * 24 ≤ _; rw [Mo.cutN_len]; omega) (by rw [Mo.cutN_len]; unfold maxLen; omega) hs6
        have HR7 : Hid _ := hr7
        have HO7 : Hid (OwnsQ rBytes 26 w7 w.heap.size (fun q => P q) (.slice q7 ((Mo.cutN k l).length + 1) d7) (Mo.cutN (k + 1) l)) := by unfold Hid; rw [HNext.out]; exact ho7
        have B7 : Hid (Below w.heap.size w w7) := ((BW.out.trans (b5.mono BW.out.size)).trans (b6.mono (Nat.le_trans BW.out.size b5.size))).grown g7 hs6 (fun j hj => (HO.out.row j hj).1)
        obtain ⟨v7, hv7⟩ : ∃ v7, v7 = Value.slice q7 ((Mo.cutN k l).length + 1) d7 := ⟨_, rfl⟩
        rw [← hv7] at HR7 HO7
        clear hr7 ho7 g7 hs6 V6 z6 hv7
        go_wp2_with (at_builtin; refine Lib.wpList_append_run _ rfl _ _ _ _ rfl _ _ rfl rfl _ _ HR7.out ?_)
        go_roundw
        case rel => exact ⟨k + 1, _, _, _, by omega, rfl, by have h := HSn.out; unfold Hid at h; omega, by omega, (fun h => by omega), by rw [HDn.out]; exact q0j _ _ _ _ (fun h => by cases h), HO7, B7.out⟩
        case measure => simp
    · have hcz : ¬ (sc : Int) = 64 := by omega
      cases hz : Mo.allZ ((l.drop (k * 64)).take 64) with
      | true =>
        have HZ : Hid _ := hz
        have HNext : Hid (Mo.cutN (k + 1) l = Mo.cutN k l ++ [[]]) := by unfold Hid; rw [Mo.cutN_more]; unfold Mo.sector; rw [if_pos hz]
        clear hz
        go_wp2_with fail
        refine (q7q wr P _ _ _ ((l.drop (k * 64)).take 64) HF.out true HZ.out).mono ?_
        rintro e w5 ⟨rfl, b5⟩
        obtain ⟨w6, hw6, V6, b6, z6⟩ := q0q w5 26 [.slice none 0 0]
        have hs6 : w.heap.size ≤ w6.heap.size := Nat.le_trans (Nat.le_trans BW.out.size b5.size) b6.size
        obtain ⟨q7, d7, w7, hr7, ho7, g7, -⟩ := q3q (ty := 22) q8X ((HO.out.below b5).below b6) (ad := ⟨w5.heap.size, 0, none⟩) (c := [.slice none 0 0]) (x := []) (fun j u hj => by rw [Addr.add_lit, Nat.zero_add]; exact V6.cell hj) (q0j _ _ _ _ (fun _ => rfl)) (by show _ * 24 ≤ _; rw [Mo.cutN_len]; omega) (by rw [Mo.cutN_len]; unfold maxLen; omega) hs6
        have HR7 : Hid _ := hr7
        have HO7 : Hid (OwnsQ rBytes 26 w7 w.heap.size (fun q => P q) (.slice q7 ((Mo.cutN k l).length + 1) d7) (Mo.cutN (k + 1) l)) := by unfold Hid; rw [HNext.out]; exact ho7
        have B7 : Hid (Below w.heap.size w w7) := ((BW.out.trans (b5.mono BW.out.size)).trans (b6.mono (Nat.le_trans BW.out.size b5.size))).grown g7 hs6 (fun j hj => (HO.out.row j hj).1)
        obtain ⟨v7, hv7⟩ : ∃ v7, v7 = Value.slice q7 ((Mo.cutN k l).length + 1) d7 := ⟨_, rfl⟩
        rw [← hv7] at HR7 HO7
        clear hr7 ho7 g7 hs6 V6 z6 hv7
        go_wp2_with (at_builtin; refine Lib.wpList_append_run _ rfl _ _ _ _ rfl _ _ rfl rfl _ _ HR7.out ?_)
        go_roundw
        case rel => exact ⟨k + 1, _, _, _, by omega, rfl, by have h := HSn.out; unfold Hid at h; omega, by omega, (fun h => by rw [show off + k * 64 + 64 = off + (k + 1) * 64 by omega]), by have h := q7Q HS.out h64; rw [List.drop_drop, show k * 64 + 64 = (k + 1) * 64 by omega] at h; exact h, HO7, B7.out⟩
        case measure => simp; omega
      | false =>
        have HZ : Hid _ := hz
        have HNext : Hid (Mo.cutN (k + 1) l = Mo.cutN k l ++ [(l.drop (k * 64)).take 64]) := by unfold Hid; rw [Mo.cutN_more]; unfold Mo.sector; rw [if_neg (by rw [hz]; exact Bool.false_ne_true)]
        clear hz
        go_wp2_with fail
        refine (q7q wr P _ _ _ ((l.drop (k * 64)).take 64) HF.out false HZ.out).mono ?_
        rintro e w5 ⟨rfl, b5⟩
        obtain ⟨w6, hw6, V6, b6, z6⟩ := q0q w5 26 [.slice (some ⟨b, off + k * 64, none⟩) 64 sc]
        have hs6 : w.heap.size ≤ w6.heap.size := Nat.le_trans (Nat.le_trans BW.out.size b5.size) b6.size
        obtain ⟨q7, d7, w7, hr7, ho7, g7, -⟩ := q3q (ty := 22) q8X ((HO.out.below b5).below b6) (ad := ⟨w5.heap.size, 0, none⟩) (c := [.slice (some ⟨b, off + k * 64, none⟩) 64 sc]) (x := (l.drop (k * 64)).take 64) (fun j u hj => by rw [Addr.add_lit, Nat.zero_add]; exact V6.cell hj) (rBytes.weaken (Rep.below (Rep.below HFW.out b5) b6) (fun q hq hl => ⟨hq.1, fun e => by have h1 := (HO.out.row q e).1; have h2 := HP.out q hq.1; omega⟩)) (by show _ * 24 ≤ _; rw [Mo.cutN_len]; omega) (by rw [Mo.cutN_len]; unfold maxLen; omega) hs6
        have HR7 : Hid _ := hr7
        have HO7 : Hid (OwnsQ rBytes 26 w7 w.heap.size (fun q => P q) (.slice q7 ((Mo.cutN k l).length + 1) d7) (Mo.cutN (k + 1) l)) := by unfold Hid; rw [HNext.out]; exact ho7
        have B7 : Hid (Below w.heap.size w w7) := ((BW.out.trans (b5.mono BW.out.size)).trans (b6.mono (Nat.le_trans BW.out.size b5.size))).grown g7 hs6 (fun j hj => (HO.out.row j hj).1)
        obtain ⟨v7, hv7⟩ : ∃ v7, v7 = Value.slice q7 ((Mo.cutN k l).length + 1) d7 := ⟨_, rfl⟩
        rw [← hv7] at HR7 HO7
        clear hr7 ho7 g7 hs6 V6 z6 hv7
        go_wp2_with (at_builtin; refine Lib.wpList_append_run _ rfl _ _ _ _ rfl _ _ rfl rfl _ _ HR7.out ?_)
        go_roundw
        case rel => exact ⟨k + 1, _, _, _, by omega, rfl, by have h := HSn.out; unfold Hid at h; omega, by omega, (fun h => by rw [show off + k * 64 + 64 = off + (k + 1) * 64 by omega]), by have h := q7Q HS.out h64; rw [List.drop_drop, show k * 64 + 64 = (k + 1) * 64 by omega] at h; exact h, HO7, B7.out⟩
        case measure => simp; omega
  · obtain rfl : m = k := by omega
    have e0 : sn = 0 := hkE rfl
    clear hkM hkE HSn
    obtain ⟨a9, c9, hv9, hr9⟩ := OwnsQ.rd (hs := by decide) HO.out (by show _ * 24 ≤ _; rw [Mo.cutN_len]; omega)
    rw [Mo.cutN_len] at hv9 hr9
    subst hv9
    subst e0
    have HR9 : Hid _ := hr9
    clear hr9 HO
    go_wp2
    go_ret
    exact ⟨a9, c9, rfl, by rw [HCut.out]; exact HR9.out, BW.out⟩
end Go.Proofs.Ytoophkmnppoppaa
