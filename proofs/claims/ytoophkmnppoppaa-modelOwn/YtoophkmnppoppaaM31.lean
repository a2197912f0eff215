/-
  Facts that the proof rests on, part 32. Conditions: those that each of them names.
-/
import Derived.Test.YtoophkmnppoppaaM10
import Derived.Test.YtoophkmnppoppaaM13
import Derived.Test.YtoophkmnppoppaaM17
import Derived.Test.YtoophkmnppoppaaM18
import Derived.Test.YtoophkmnppoppaaM19
import Derived.Test.YtoophkmnppoppaaM22
import Derived.Test.YtoophkmnppoppaaM23
import Derived.Test.YtoophkmnppoppaaM24
import Derived.Test.YtoophkmnppoppaaM25
import Derived.Test.YtoophkmnppoppaaM27
import Derived.Test.YtoophkmnppoppaaM28
import Derived.Test.YtoophkmnppoppaaM29
import Derived.Test.YtoophkmnppoppaaM30
namespace Go.Proofs.Ytoophkmnppoppaa
set_option maxHeartbeats 16000000
open Go.RowKit
set_option linter.unusedVariables false
theorem docChange_u (W : World) (base hi : Nat) (s : Sta) (ua va : Option Addr) (n uc m vc : Nat) (x : Opn) (P : Nat → Prop) (xa : Option Addr) (xn xc : Nat)
 (hO : OwnsQ rBytes 26 W base (fun q => base ≤ q ∧ q < hi) (.slice ua n uc) s.1) (hOr : ∀ k, (Value.slice ua n uc).ownBlock = some k → k < hi) (hV : Owns rSnp 67 W hi (.slice va m vc) s.2.1) (hlm : s.2.1.length = m) (hln : s.1.length = n) (hb : base ≤ hi) (hh : hi ≤ W.heap.size)
 (hx : rOpn.rd W P [.int .i64 x.1, .int .i64 x.2.1, .int .i64 x.2.2.1, .int .i64 x.2.2.2.1, .string x.2.2.2.2.1, .slice xa xn xc] x) (hP : ∀ q, P q → q < base) (hok : Mo.ok s = true) (hE : Mo.opE s x = 0) :
 Calls Try.prog 34 #[.agg #[.slice ua n uc, .slice va m vc, .int .i64 s.2.2], .agg #[.int .i64 x.1, .int .i64 x.2.1, .int .i64 x.2.2.1, .int .i64 x.2.2.2.1, .string x.2.2.2.2.1, .slice xa xn xc]] W fun e w' => ∃ (a' : Option Addr) (n' c' : Nat) (b' : Option Addr) (m' d' : Nat) (t' : Int) (da : Option Addr) (dn dc : Nat) (la : Option Addr) (ln lc : Nat),
  e = .returned (.tuple #[.agg #[.slice a' n' c', .slice b' m' d', .int .i64 t'], .agg #[.int .i64 0, .slice da dn dc, .int .i64 (Mo.chgI s x), .slice la ln lc, .int .i64 0]]) ∧
  rSta.rd w' (fun q => base ≤ q) [.slice a' n' c', .slice b' m' d', .int .i64 t'] (Mo.chgS s x) ∧ rBytes.rd w' (fun q => base ≤ q) [.slice da dn dc] (Mo.chgD s x) ∧ rNmds.rd w' (fun q => base ≤ q) [.slice la ln lc] (Mo.chgL s x) ∧ Below base W w' := by
 by_cases h1 : x.1 = 1
 · exact docChg1_u W base hi s ua va n uc m vc x P xa xn xc hO hOr hV hlm hln hb hh hx hP hok hE h1
 by_cases h2 : x.1 = 2
 · exact docChg2_u W base hi s ua va n uc m vc x P xa xn xc hO hOr hV hlm hln hb hh hx hP hok hE h2
 by_cases h3 : x.1 = 3
 · exact docChg3_u W base hi s ua va n uc m vc x P xa xn xc hO hOr hV hlm hln hb hh hx hP hok hE h3
 by_cases h4 : x.1 = 4
 · exact docChg4_u W base hi s ua va n uc m vc x P xa xn xc hO hOr hV hlm hln hb hh hx hP hok hE h4
 by_cases h5 : x.1 = 5
 · exact docChg5_u W base hi s ua va n uc m vc x P xa xn xc hO hOr hV hlm hln hb hh hx hP hok hE h5
 by_cases h6 : x.1 = 6
 · exact docChg6_u W base hi s ua va n uc m vc x P xa xn xc hO hOr hV hlm hln hb hh hx hP hok hE h6
 by_cases h7 : x.1 = 7
 · exact docChg7_u W base hi s ua va n uc m vc x P xa xn xc hO hOr hV hlm hln hb hh hx hP hok hE h7
 by_cases h8 : x.1 = 8
 · exact docChg8_u W base hi s ua va n uc m vc x P xa xn xc hO hOr hV hlm hln hb hh hx hP hok hE h8
 exfalso
 unfold Mo.opE Mo.mayE Mo.what at hE
 rw [if_neg h1, if_neg (by omega), if_neg h4, if_neg (by omega), if_neg h7, if_neg h8] at hE
 omega
theorem fresh2D (wd : World) (x0 x1 x2 y0 y1 y2 y3 y4 : Value) : ∃ wA wB wX wY, wd.alloc (.cells #[.slice none 0 0, .slice none 0 0, .int .i64 0] 25) = wA ∧ wA.alloc (.cells #[.int .i64 0, .slice none 0 0, .int .i64 0, .slice none 0 0, .int .i64 0] 43) = wB ∧ Row wB wd.heap.size 25 [.slice none 0 0, .slice none 0 0, .int .i64 0] ∧
 ((wB.setCell ⟨wd.heap.size, 0, none⟩ x0).setCell ⟨wd.heap.size, 1, none⟩ x1).setCell ⟨wd.heap.size, 2, none⟩ x2 = wX ∧ Row wX wA.heap.size 43 [.int .i64 0, .slice none 0 0, .int .i64 0, .slice none 0 0, .int .i64 0] ∧
 ((((wX.setCell ⟨wA.heap.size, 0, none⟩ y0).setCell ⟨wA.heap.size, 1, none⟩ y1).setCell ⟨wA.heap.size, 2, none⟩ y2).setCell ⟨wA.heap.size, 3, none⟩ y3).setCell ⟨wA.heap.size, 4, none⟩ y4 = wY ∧ Row wY wd.heap.size 25 [x0, x1, x2] ∧ Row wY wA.heap.size 43 [y0, y1, y2, y3, y4] ∧ Below wd.heap.size wd wY ∧ wd.heap.size < wA.heap.size := by
 obtain ⟨wA, hwA, VA, bA, zA⟩ := q0q wd 25 [.slice none 0 0, .slice none 0 0, .int .i64 0]
 obtain ⟨wB, hwB, VB, bB, zB⟩ := q0q wA 43 [.int .i64 0, .slice none 0 0, .int .i64 0, .slice none 0 0, .int .i64 0]
 have V1 := VA.below bB
 obtain ⟨wX, hwX, VX, KX⟩ := V1.whole3 x0 x1 x2
 have V2 := VB.keep (KX.block wA.heap.size (by omega))
 obtain ⟨wY, hwY, VY, KY⟩ := V2.whole5 y0 y1 y2 y3 y4
 exact ⟨wA, wB, wX, wY, hwA, hwB, V1, hwX, V2, hwY, VX.keep (KY.block wd.heap.size (by omega)), VY, Kept.belowOf (Kept.belowOf (on bA bB) KX (Nat.le_refl _)) KY (by omega), by omega⟩
theorem do_not {s : Sta} {x : Opn} (h1 : Mo.ok s = true) (h2 : Mo.opE s x ≠ 0) : Mo.doS s x = s ∧ Mo.doR s x = (Mo.opE s x, [], 0, [], (s.1.length : Int)) := by
 unfold Mo.doS Mo.doR
 rw [if_pos h1, if_neg h2, if_pos h1, if_neg h2]
 exact ⟨rfl, rfl⟩
theorem rOpn_of' {w : World} {P : Nat → Prop} {x : Opn} {xa : Option Addr} {xn xc : Nat} (h : I64 x.1 ∧ I64 x.2.1 ∧ I64 x.2.2.1 ∧ I64 x.2.2.2.1 ∧ x.2.2.2.2.1.size ≤ maxLen) (hd : rBytes.rd w P [.slice xa xn xc] x.2.2.2.2.2) : rOpn.rd w P [.int .i64 x.1, .int .i64 x.2.1, .int .i64 x.2.2.1, .int .i64 x.2.2.2.1, .string x.2.2.2.2.1, .slice xa xn xc] x :=
 rOpn.of h.1 h.2.1 h.2.2.1 h.2.2.2.1 h.2.2.2.2 hd
set_option maxRecDepth 20000 in
theorem docDo_u (W : World) (P P' : Nat → Prop) (a b : Option Addr) (n c m d : Nat) (next : Int) (s : Sta) (hS : rSta.rd W P [.slice a n c, .slice b m d, .int .i64 next] s) (x : Opn) (xa : Option Addr) (xn xc : Nat) (hx : rOpn.rd W P' [.int .i64 x.1, .int .i64 x.2.1, .int .i64 x.2.2.1, .int .i64 x.2.2.2.1, .string x.2.2.2.2.1, .slice xa xn xc] x) :
 Calls Try.prog 12 #[.agg #[.slice a n c, .slice b m d, .int .i64 next], .agg #[.int .i64 x.1, .int .i64 x.2.1, .int .i64 x.2.2.1, .int .i64 x.2.2.2.1, .string x.2.2.2.2.1, .slice xa xn xc]] W fun e w' => ∃ (a' : Option Addr) (n' c' : Nat) (b' : Option Addr) (m' d' : Nat) (t' : Int) (da : Option Addr) (dn dc : Nat) (la : Option Addr) (ln lc : Nat),
  e = .returned (.tuple #[.agg #[.slice a' n' c', .slice b' m' d', .int .i64 t'], .agg #[.int .i64 (Mo.doR s x).1, .slice da dn dc, .int .i64 (Mo.doR s x).2.2.1, .slice la ln lc, .int .i64 (Mo.doR s x).2.2.2.2]]) ∧
  rSta.rd w' (fun q => W.heap.size ≤ q) [.slice a' n' c', .slice b' m' d', .int .i64 t'] (Mo.doS s x) ∧ rBytes.rd w' (fun q => W.heap.size ≤ q) [.slice da dn dc] (Mo.doR s x).2.1 ∧ rNmds.rd w' (fun q => W.heap.size ≤ q) [.slice la ln lc] (Mo.doR s x).2.2.2.1 ∧ Below W.heap.size W w' := by
 have hS1 : rSta.rd W (fun q => q < W.heap.size) [.slice a n c, .slice b m d, .int .i64 next] s := rSta.weaken hS (fun q hq hl => hl)
 obtain ⟨hD, hL, hn, hm, ht⟩ := q1Z hS
 have hi : I64 s.2.2 := by obtain ⟨a', n', c', b', m', d', e, h1, h2, h3⟩ := q0X hS; exact h3
 rw [← ht] at hi
 obtain ⟨xa', xn', xc', ex, hd, i0, i1, i2, i3, i4⟩ := q1X hx
 simp only [List.cons.injEq, Value.slice.injEq, and_true, true_and] at ex
 obtain ⟨rfl, rfl, rfl⟩ := ex
 have hd0 : rBytes.rd W (fun q => q < W.heap.size) [.slice xa xn xc] x.2.2.2.2.2 := rBytes.weaken hd (fun q hq hl => hl)
 have HIx : Hid (I64 x.1 ∧ I64 x.2.1 ∧ I64 x.2.2.1 ∧ I64 x.2.2.2.1 ∧ x.2.2.2.2.1.size ≤ maxLen) := ⟨i0, i1, i2, i3, i4⟩
 have HI : Hid (I64 next) := hi
 have HNx : Hid (next = s.2.2) := ht
 have HLm : Hid (s.2.1.length = m) := hm
 have HLn : Hid (s.1.length = n) := hn
 obtain ⟨w1, hw1, V1, b1, z1⟩ := q0q W 25 [.slice a n c, .slice b m d, .int .i64 next]
 obtain ⟨w2, hw2, V2, b2, z2⟩ := q0q w1 28 [.int .i64 x.1, .int .i64 x.2.1, .int .i64 x.2.2.1, .int .i64 x.2.2.2.1, .string x.2.2.2.2.1, .slice xa xn xc]
 obtain ⟨w3, hw3, V3, b3, z3⟩ := q0q w2 25 [.slice none 0 0, .slice none 0 0, .int .i64 0]
 obtain ⟨w4, hw4, V4, b4, z4⟩ := q0q w3 43 [.int .i64 0, .slice none 0 0, .int .i64 0, .slice none 0 0, .int .i64 0]
 have HZ : Hid (w1.heap.size = W.heap.size + 1 ∧ w2.heap.size = W.heap.size + 2 ∧ w3.heap.size = W.heap.size + 3 ∧ w4.heap.size = W.heap.size + 4) := by unfold Hid; omega
 have bel : Below W.heap.size W w4 := on (on (on b1 b2) b3) b4
 have Rt_4 : Hid _ := ((V1.below b2).below b3).below b4
 have Rx_4 : Hid _ := (V2.below b3).below b4
 have Rp_4 : Hid (Row w4 (w2.heap.size) 25 [.slice none 0 0, .slice none 0 0, .int .i64 0]) := V3.below b4
 have Rq_4 : Hid _ := V4
 have Ds_4 : Hid (rSta.rd w4 (fun q => q < W.heap.size) [.slice a n c, .slice b m d, .int .i64 next] (s)) := Rep.below hS1 bel
 have Yd_4 : Hid (rBytes.rd w4 (fun q => q < W.heap.size) [.slice xa xn xc] (x.2.2.2.2.2)) := Rep.below hd0 bel
 have B_4 : Hid _ := bel
 have hcase : Mo.ok s = false ∨ Mo.ok s = true := by
  by_cases h : Mo.ok s = true
  · exact .inr h
  · exact .inl (Bool.eq_false_iff.2 h)
 clear hS hS1 hD hL hn hm ht hi hx hd hd0 i0 i1 i2 i3 i4 V1 V2 V3 V4 b1 b2 b3 b4 z1 z2 z3 z4 bel
 rcases hcase with hok | hok
 · skip
   have HE : Hid (Mo.checkE s = 9) := Mo.checkE_nine hok
   have HdS : Hid (Mo.doS s x = ([], [], 0)) := by unfold Hid Mo.doS; rw [hok]; rfl
   have HdR : Hid (Mo.doR s x = (9, [], 0, [], 0)) := by unfold Hid Mo.doR; rw [hok]; rfl
   clear hok
   go_enter Try.func12, Try.ntmps12
   have qt0 := Rt_4.out.cell (j := 0) rfl
   have qt1 := Rt_4.out.cell (j := 1) rfl
   have qt2 := Rt_4.out.cell (j := 2) rfl
   have hck := qCj w4 _ a b n c m d next s Ds_4.out
   rw [HE.out] at hck
   go_wp2_with fail
   go_at_call 17
   refine Calls.mono (hck) ?_
   rintro e w5 ⟨rfl, b5⟩
   clear hck
   have Rt_5 : Hid _ := Rt_4.out.below (b5)
   have Rx_5 : Hid _ := Rx_4.out.below (b5)
   have Rp_5 : Hid _ := Rp_4.out.below (b5)
   have Rq_5 : Hid _ := Rq_4.out.below (b5)
   have Ds_5 : Hid (rSta.rd w5 (fun q => q < W.heap.size) [.slice a n c, .slice b m d, .int .i64 next] (s)) := Rep.below Ds_4.out (b5)
   have Yd_5 : Hid (rBytes.rd w5 (fun q => q < W.heap.size) [.slice xa xn xc] (x.2.2.2.2.2)) := Rep.below Yd_4.out (b5)
   have B_5 : Hid _ := on B_4.out (b5)
   clear qt0 qt1 qt2
   clear Rt_4 Rx_4 Rp_4 Rq_4 Ds_4 Yd_4
   clear b5
   have PA : Hid (Row w5 (w2.heap.size) 25 [.slice none 0 0, .slice none 0 0, .int .i64 0]) := Rp_5.out
   have sA0 := PA.out.cell (j := 0) rfl
   have uA0 := PA.out.frozen 0
   have sA1 := PA.out.cell (j := 1) rfl
   have uA1 := PA.out.frozen 1
   have sA2 := PA.out.cell (j := 2) rfl
   have uA2 := PA.out.frozen 2
   obtain ⟨wPA, hwPA, VPA, KPA⟩ := PA.out.whole3 (.slice none 0 0) (.slice none 0 0) (.int .i64 0)
   have HVPA : Hid _ := VPA
   have PB : Hid (Row wPA (w3.heap.size) 43 [.int .i64 0, .slice none 0 0, .int .i64 0, .slice none 0 0, .int .i64 0]) := Rq_5.out.keep (KPA.block _ (by have h7 := HZ.out; unfold Hid at h7; show w3.heap.size ≠ w2.heap.size; omega))
   have sB0 := PB.out.cell (j := 0) rfl
   have uB0 := PB.out.frozen 0
   have sB1 := PB.out.cell (j := 1) rfl
   have uB1 := PB.out.frozen 1
   have sB2 := PB.out.cell (j := 2) rfl
   have uB2 := PB.out.frozen 2
   have sB3 := PB.out.cell (j := 3) rfl
   have uB3 := PB.out.frozen 3
   have sB4 := PB.out.cell (j := 4) rfl
   have uB4 := PB.out.frozen 4
   obtain ⟨wPB, hwPB, VPB, KPB⟩ := PB.out.whole5 (.int .i64 9) (.slice none 0 0) (.int .i64 0) (.slice none 0 0) (.int .i64 0)
   have HVPB : Hid _ := VPB
   have KKB : Hid (Kept (fun q => q ≠ w2.heap.size ∧ q ≠ w3.heap.size) w5 wPB) := (KPA.mono (fun q hq => hq.1)).trans (KPB.mono (fun q hq => hq.2))
   have VA9 : Hid (Row wPB (w2.heap.size) 25 [.slice none 0 0, .slice none 0 0, .int .i64 0]) := HVPA.out.keep (KPB.block _ (by have h7 := HZ.out; unfold Hid at h7; show w2.heap.size ≠ w3.heap.size; omega))
   have VB9 : Hid (Row wPB (w3.heap.size) 43 [.int .i64 9, .slice none 0 0, .int .i64 0, .slice none 0 0, .int .i64 0]) := HVPB.out
   clear VPA VPB KPA KPB HVPA HVPB
   go_wp2
   refine bodyPost_ret (q0x rfl rfl rfl VA9.out VB9.out Try.underlying25 rfl (by kernel_rfl) Try.underlying43 rfl (by kernel_rfl)) rfl ⟨_, _, _, _, _, _, _, _, _, _, _, _, _, by rw [HdR.out], ?_, ?_, ?_, ?_⟩
   · rw [HdS.out]; exact q2Q (s := ([], [], 0)) (q7j _ _) (q8x _ _) (by show (-9223372036854775808 : Int) ≤ 0 ∧ (0 : Int) ≤ 9223372036854775807; decide)
   · rw [HdR.out]; exact q0j _ _ _ _ (fun _ => rfl)
   · rw [HdR.out]; exact q0Z _ _
   · exact Kept.toBelow ((Kept.below B_5.out).trans (KKB.out.mono (fun q hq => by have h7 := HZ.out; unfold Hid at h7; have h1 : q < W.heap.size := hq; exact ⟨by show q ≠ _; omega, by show q ≠ _; omega⟩)))
 · skip
   have HOk : Hid (Mo.ok s = true) := hok
   have HE : Hid (Mo.checkE s = 0) := Mo.checkE_zero.2 hok
   have HF : Hid _ := (Mo.ok_iff s).1 hok
   have hm8 : m ≤ 8 := by have h1 := HF.out.few; have h2 := HLm.out; unfold Hid at h2; omega
   have hn6 : n ≤ 65536 := by have h1 := (Mo.okDisk_iff.1 HF.out.now).1; have h2 := HLn.out; unfold Hid at h2; omega
   have HMN : Hid (m ≤ 8 ∧ n ≤ 65536) := ⟨hm8, hn6⟩
   obtain ⟨E, hE⟩ : ∃ E, E = Mo.opE s x := ⟨_, rfl⟩
   have HOe : Hid (Mo.opE s x = E) := hE.symm
   have HMay : Hid (Mo.mayE (n : Int) (Mo.named s.2.1) next x = E) := by unfold Hid; rw [hE]; unfold Mo.opE; rw [HLn.out, HNx.out]
   clear hok hE hm8 hn6
   go_enter Try.func12, Try.ntmps12
   have qt0 := Rt_4.out.cell (j := 0) rfl
   have qt1 := Rt_4.out.cell (j := 1) rfl
   have qt2 := Rt_4.out.cell (j := 2) rfl
   have hck := qCj w4 _ a b n c m d next s Ds_4.out
   rw [HE.out] at hck
   go_wp2_with fail
   go_at_call 17
   refine Calls.mono (hck) ?_
   rintro e w6 ⟨rfl, b6⟩
   clear hck
   have Rt_6 : Hid _ := Rt_4.out.below (b6)
   have Rx_6 : Hid _ := Rx_4.out.below (b6)
   have Rp_6 : Hid _ := Rp_4.out.below (b6)
   have Rq_6 : Hid _ := Rq_4.out.below (b6)
   have Ds_6 : Hid (rSta.rd w6 (fun q => q < W.heap.size) [.slice a n c, .slice b m d, .int .i64 next] (s)) := Rep.below Ds_4.out (b6)
   have Yd_6 : Hid (rBytes.rd w6 (fun q => q < W.heap.size) [.slice xa xn xc] (x.2.2.2.2.2)) := Rep.below Yd_4.out (b6)
   have B_6 : Hid _ := on B_4.out (b6)
   clear qt0 qt1 qt2
   clear Rt_4 Rx_4 Rp_4 Rq_4 Ds_4 Yd_4
   clear b6
   have qt0 := Rt_6.out.cell (j := 0) rfl
   have qt1 := Rt_6.out.cell (j := 1) rfl
   have qt2 := Rt_6.out.cell (j := 2) rfl
   have how := docOwn_u w6 _ a b n c m d s (by rw [← HNx.out]; exact Ds_6.out) HMN.out.1 HMN.out.2
   rw [← HNx.out] at how
   go_wp2_with fail
   go_at_call 32
   refine Calls.mono (how) ?_
   rintro e w7 ⟨u, v, hi, rfl, hh1, hh2, hO, hOr, hV, b7⟩
   clear how
   obtain ⟨ua, uc, hu⟩ := hO.slice
   rw [HLn.out] at hu
   subst hu
   obtain ⟨va, vc, hv, -⟩ := Owns.rd (hs := by decide) hV (by rw [HLm.out]; have h := HMN.out.1; show m * 48 ≤ _; omega)
   rw [HLm.out] at hv
   subst hv
   have HHi : Hid (w6.heap.size ≤ hi ∧ hi ≤ w7.heap.size) := ⟨hh1, hh2⟩
   have HO : Hid (OwnsQ rBytes 26 w7 w6.heap.size (fun q => w6.heap.size ≤ q ∧ q < hi) (.slice ua n uc) s.1) := hO
   have HOR : Hid (∀ k, (Value.slice ua n uc).ownBlock = some k → k < hi) := hOr
   have HV : Hid (Owns rSnp 67 w7 hi (.slice va m vc) s.2.1) := hV
   have HB0 : Hid (W.heap.size ≤ w6.heap.size) := B_6.out.size
   have HZ3 : Hid (w4.heap.size ≤ w6.heap.size) := by have h1 := Rq_6.out.lt; have h2 := HZ.out; unfold Hid at h2 ⊢; omega
   have Rt_7 : Hid _ := Rt_6.out.below (b7)
   have Rx_7 : Hid _ := Rx_6.out.below (b7)
   have Rp_7 : Hid _ := Rp_6.out.below (b7)
   have Rq_7 : Hid _ := Rq_6.out.below (b7)
   have Ds_7 : Hid (rSta.rd w7 (fun q => q < W.heap.size) [.slice a n c, .slice b m d, .int .i64 next] (s)) := Rep.below Ds_6.out (b7)
   have Yd_7 : Hid (rBytes.rd w7 (fun q => q < W.heap.size) [.slice xa xn xc] (x.2.2.2.2.2)) := Rep.below Yd_6.out (b7)
   have B_7 : Hid _ := on B_6.out (b7)
   clear qt0 qt1 qt2
   clear Rt_6 Rx_6 Rp_6 Rq_6 Ds_6 Yd_6
   clear hh1 hh2 hO hOr hV b7
   obtain ⟨wA8, hA8, VA, bA, zA⟩ := q0q w7 25 [.slice none 0 0, .slice none 0 0, .int .i64 0]
   obtain ⟨w8, hX8, VX, KX⟩ := VA.whole3 (.slice ua n uc) (.slice va m vc) (.int .i64 next)
   have bX : Below w7.heap.size w7 w8 := Kept.belowOf bA KX (Nat.le_refl _)
   have Ru_8 : Hid _ := VX
   have pu0 := VA.cell (j := 0) rfl
   have fu0 := VA.frozen 0
   have pu1 := VA.cell (j := 1) rfl
   have fu1 := VA.frozen 1
   have pu2 := VA.cell (j := 2) rfl
   have fu2 := VA.frozen 2
   have Rt_8 : Hid _ := Rt_7.out.below (bX)
   have Rx_8 : Hid _ := Rx_7.out.below (bX)
   have Rp_8 : Hid _ := Rp_7.out.below (bX)
   have Rq_8 : Hid _ := Rq_7.out.below (bX)
   have Ds_8 : Hid (rSta.rd w8 (fun q => q < W.heap.size) [.slice a n c, .slice b m d, .int .i64 next] (s)) := Rep.below Ds_7.out (bX)
   have Yd_8 : Hid (rBytes.rd w8 (fun q => q < W.heap.size) [.slice xa xn xc] (x.2.2.2.2.2)) := Rep.below Yd_7.out (bX)
   have B_8 : Hid _ := on B_7.out (bX)
   clear Rt_7 Rx_7 Rp_7 Rq_7 Ds_7 Yd_7
   have HO8 : Hid (OwnsQ rBytes 26 w8 w6.heap.size (fun q => w6.heap.size ≤ q ∧ q < hi) (.slice ua n uc) s.1) := HO.out.below bX
   have HV8 : Hid (Owns rSnp 67 w8 hi (.slice va m vc) s.2.1) := HV.out.below bX
   clear HO HV VA VX KX bA bX zA
   have qt0 := Rt_8.out.cell (j := 0) rfl
   have qt1 := Rt_8.out.cell (j := 1) rfl
   have qt2 := Rt_8.out.cell (j := 2) rfl
   have qx0 := Rx_8.out.cell (j := 0) rfl
   have qx1 := Rx_8.out.cell (j := 1) rfl
   have qx2 := Rx_8.out.cell (j := 2) rfl
   have qx3 := Rx_8.out.cell (j := 3) rfl
   have qx4 := Rx_8.out.cell (j := 4) rfl
   have qx5 := Rx_8.out.cell (j := 5) rfl
   have HSee : Hid (∀ w', Below w8.heap.size w8 w' → w'.cell? ⟨W.heap.size, 0, none⟩ = some (.slice a n c) ∧ w'.cell? ⟨W.heap.size, 1, none⟩ = some (.slice b m d) ∧ w'.cell? ⟨W.heap.size, 2, none⟩ = some (.int .i64 next) ∧ w'.cell? ⟨w1.heap.size, 0, none⟩ = some (.int .i64 x.1) ∧ w'.cell? ⟨w1.heap.size, 1, none⟩ = some (.int .i64 x.2.1) ∧ w'.cell? ⟨w1.heap.size, 2, none⟩ = some (.int .i64 x.2.2.1) ∧ w'.cell? ⟨w1.heap.size, 3, none⟩ = some (.int .i64 x.2.2.2.1) ∧ w'.cell? ⟨w1.heap.size, 4, none⟩ = some (.string x.2.2.2.2.1) ∧ w'.cell? ⟨w1.heap.size, 5, none⟩ = some (.slice xa xn xc)) := fun w' hb => ⟨(Rt_8.out.below hb).cell (j := 0) rfl, (Rt_8.out.below hb).cell (j := 1) rfl, (Rt_8.out.below hb).cell (j := 2) rfl, (Rx_8.out.below hb).cell (j := 0) rfl, (Rx_8.out.below hb).cell (j := 1) rfl, (Rx_8.out.below hb).cell (j := 2) rfl, (Rx_8.out.below hb).cell (j := 3) rfl, (Rx_8.out.below hb).cell (j := 4) rfl, (Rx_8.out.below hb).cell (j := 5) rfl⟩
   have S0 := HSee.out _ (Below.refl _ w8).drew
   clear qt0 qt1 qt2 qx0 qx1 qx2 qx3 qx4 qx5
   go_wp2_with fail
   skip
   refine wp_region_held_drew (S := (fun w' : World => w'.cell? ⟨W.heap.size, 0, none⟩ = some (.slice a n c) ∧ w'.cell? ⟨W.heap.size, 1, none⟩ = some (.slice b m d) ∧ w'.cell? ⟨W.heap.size, 2, none⟩ = some (.int .i64 next) ∧ w'.cell? ⟨w1.heap.size, 0, none⟩ = some (.int .i64 x.1) ∧ w'.cell? ⟨w1.heap.size, 1, none⟩ = some (.int .i64 x.2.1) ∧ w'.cell? ⟨w1.heap.size, 2, none⟩ = some (.int .i64 x.2.2.1) ∧ w'.cell? ⟨w1.heap.size, 3, none⟩ = some (.int .i64 x.2.2.2.1) ∧ w'.cell? ⟨w1.heap.size, 4, none⟩ = some (.string x.2.2.2.2.1) ∧ w'.cell? ⟨w1.heap.size, 5, none⟩ = some (.slice xa xn xc))) (by kernel_rfl) (S0) (fun hH => ?_)
   refine tkM 0 _ rfl rfl ?_; simp only [sz, ss]
   refine tkM 1 _ rfl rfl ?_; simp only [sz, ss]
   refine tkM 2 _ rfl rfl ?_; simp only [sz, ss]
   refine tkM 3 _ rfl rfl ?_; simp only [sz, ss]
   refine tkM 5 _ rfl rfl ?_; simp only [sz, ss]
   refine tkM 6 _ rfl rfl ?_; simp only [sz, ss]
   refine tkM 7 _ rfl rfl ?_; simp only [sz, ss]
   refine r1L 4 rfl fun K hK => ?_
   · go_simp
     go_at_call 33
     refine Calls.mono (qGx w8.drew _ a b n c m d next s.2.1 (rSnps.keep (q1Z Ds_8.out).2.1 (fun _ _ _ => rfl)) (by have h := HMN.out.1; omega)) ?_
     rintro e wL ⟨q7, r7, rfl, hrl, bl⟩
     have BL : Hid (Below w8.heap.size w8 wL) := (Below.refl _ w8).drew.trans bl
     have HLi : Hid (rNmds.rd wL (fun _ => True) [.slice q7 m r7] (Mo.named s.2.1)) := rNmds.weaken hrl (fun _ _ _ => trivial)
     have SL := HSee.out _ BL.out
     clear hrl bl
     go_simp
     refine hK.out _ _ ?_ (fun hH => ?_)
     · try dsimp only
       exact SL
     clear hK K
     refine r1L 8 rfl fun K hK => ?_
     · go_simp
       go_at_call 23
       refine Calls.mono (docMay_u wL (fun _ => True) q7 m r7 (Mo.named s.2.1) HLi.out (n : Int) next (by have h := HMN.out.2; unfold I64; omega) x xa xn xc (rOpn_of' HIx.out (rBytes.weaken (Rep.below Yd_8.out BL.out) (fun _ _ _ => trivial)))) ?_
       rw [HMay.out]
       rintro e wM ⟨rfl, bm⟩
       have BM : Hid _ := on BL.out bm
       have SM := HSee.out _ BM.out
       clear bm
       go_simp
       refine hK.out _ _ ?_ (fun hH => ?_)
       · try dsimp only
         exact SM
       clear hK K
       refine tkM 9 _ rfl rfl ?_; simp only [sz, ss]
       refine wpAnyH_done (by kernel_rfl) ?_ _
       clear hH SL SM S0
       obtain ⟨w9, hw9⟩ : ∃ v, v = wM := ⟨_, rfl⟩
       subst hw9
       have HO9 : Hid (OwnsQ rBytes 26 w9 w6.heap.size (fun q => w6.heap.size ≤ q ∧ q < hi) (.slice ua n uc) s.1) := HO8.out.below BM.out
       have HV9 : Hid (Owns rSnp 67 w9 hi (.slice va m vc) s.2.1) := HV8.out.below BM.out
       have Rt_9 : Hid _ := Rt_8.out.below (BM.out)
       have Rx_9 : Hid _ := Rx_8.out.below (BM.out)
       have Rp_9 : Hid _ := Rp_8.out.below (BM.out)
       have Rq_9 : Hid _ := Rq_8.out.below (BM.out)
       have Ds_9 : Hid (rSta.rd w9 (fun q => q < W.heap.size) [.slice a n c, .slice b m d, .int .i64 next] (s)) := Rep.below Ds_8.out (BM.out)
       have Yd_9 : Hid (rBytes.rd w9 (fun q => q < W.heap.size) [.slice xa xn xc] (x.2.2.2.2.2)) := Rep.below Yd_8.out (BM.out)
       have Ru_9 : Hid _ := Ru_8.out.below (BM.out)
       have B_9 : Hid _ := on B_8.out (BM.out)
       clear Rt_8 Rx_8 Rp_8 Rq_8 Ds_8 Yd_8 Ru_8
       clear BM BL HLi HSee HO8 HV8
       have qu0 := Ru_9.out.cell (j := 0) rfl
       have qu1 := Ru_9.out.cell (j := 1) rfl
       have qu2 := Ru_9.out.cell (j := 2) rfl
       by_cases hE0 : E = 0
       rotate_left
       · skip
         have HdS : Hid (Mo.doS s x = s) := (do_not HOk.out (by rw [HOe.out]; exact hE0)).1
         have HdR : Hid (Mo.doR s x = (E, [], 0, [], (n : Int))) := by unfold Hid; rw [(do_not HOk.out (by rw [HOe.out]; exact hE0)).2, HOe.out, HLn.out]
         have HSt : Hid (rSta.rd w9 (fun q => w6.heap.size ≤ q ∧ q < w9.heap.size) [.slice ua n uc, .slice va m vc, .int .i64 next] s) := by
          have h1 := OwnsQ.rdQ (hs := by decide) HO9.out HLn.out (by have h := HMN.out.2; show n * 24 ≤ _; omega) (fun k hk => ⟨(HO9.out.row k hk).1, HOR.out k hk⟩)
          obtain ⟨va', vc', e2, h2⟩ := Owns.rd (hs := by decide) HV9.out (by rw [HLm.out]; have h := HMN.out.1; show m * 48 ≤ _; omega)
          rw [HLm.out] at e2 h2
          simp only [Value.slice.injEq, true_and] at e2
          obtain ⟨rfl, rfl⟩ := e2
          unfold Hid
          have hT := HNx.out
          rw [hT]
          exact q2Q (rSectors.weaken h1 (fun q hq _ => by have h := HHi.out; have h1 := hq.1; have h2 := hq.2; exact ⟨h1, by omega⟩)) (rSnps.weaken h2 (fun q hq hl => by have h := HHi.out; have h1 : hi ≤ q := hq; exact ⟨by omega, hl⟩)) (by rw [← hT]; exact HI.out)
         have HSeeT : Hid (∀ w', Kept (fun q => q ≠ w2.heap.size ∧ q ≠ w3.heap.size) w9 w' → w'.cell? ⟨w7.heap.size, 0, none⟩ = some (.slice ua n uc) ∧ w'.cell? ⟨w7.heap.size, 1, none⟩ = some (.slice va m vc) ∧ w'.cell? ⟨w7.heap.size, 2, none⟩ = some (.int .i64 next)) := fun w' hk => ⟨hk.cell (p := ⟨w7.heap.size, 0, none⟩) (by have h7 := HZ.out; have h8 := HZ3.out; have h9 := HB0.out; have h10 := HHi.out; unfold Hid at h7 h8 h9 h10; exact ⟨by show w7.heap.size ≠ w2.heap.size; omega, by show w7.heap.size ≠ w3.heap.size; omega⟩) (Ru_9.out.cell (j := 0) rfl), hk.cell (p := ⟨w7.heap.size, 1, none⟩) (by have h7 := HZ.out; have h8 := HZ3.out; have h9 := HB0.out; have h10 := HHi.out; unfold Hid at h7 h8 h9 h10; exact ⟨by show w7.heap.size ≠ w2.heap.size; omega, by show w7.heap.size ≠ w3.heap.size; omega⟩) (Ru_9.out.cell (j := 1) rfl), hk.cell (p := ⟨w7.heap.size, 2, none⟩) (by have h7 := HZ.out; have h8 := HZ3.out; have h9 := HB0.out; have h10 := HHi.out; unfold Hid at h7 h8 h9 h10; exact ⟨by show w7.heap.size ≠ w2.heap.size; omega, by show w7.heap.size ≠ w3.heap.size; omega⟩) (Ru_9.out.cell (j := 2) rfl)⟩
         have S0 := HSeeT.out _ (Kept.refl _ w9).drew
         clear qu0 qu1 qu2
         go_wp2_with fail
         refine wp_region_held_drew (S := (fun w' : World => w'.cell? ⟨w7.heap.size, 0, none⟩ = some (.slice ua n uc) ∧ w'.cell? ⟨w7.heap.size, 1, none⟩ = some (.slice va m vc) ∧ w'.cell? ⟨w7.heap.size, 2, none⟩ = some (.int .i64 next))) (by kernel_rfl) (S0) (fun hH => ?_)
         refine tkM 0 _ rfl rfl ?_; simp only [sz, ss]
         refine tkM 1 _ rfl rfl ?_; simp only [sz, ss]
         refine tkM 2 _ rfl rfl ?_; simp only [sz, ss]
         refine tkM 3 _ rfl rfl ?_; simp only [sz, ss]
         refine tkM 4 _ rfl rfl ?_; simp only [sz, ss]
         refine tkM 5 _ rfl rfl ?_; simp only [sz, ss]
         refine r1L 6 rfl fun K hK => ?_
         · have PA : Hid (Row w9 (w2.heap.size) 25 [.slice none 0 0, .slice none 0 0, .int .i64 0]) := Rp_9.out
           have sA0 := PA.out.cell (j := 0) rfl
           have uA0 := PA.out.frozen 0
           have sA1 := PA.out.cell (j := 1) rfl
           have uA1 := PA.out.frozen 1
           have sA2 := PA.out.cell (j := 2) rfl
           have uA2 := PA.out.frozen 2
           obtain ⟨wPA, hwPA, VPA, KPA⟩ := PA.out.whole3 (.slice ua n uc) (.slice va m vc) (.int .i64 next)
           have HVPA : Hid _ := VPA
           have KKA : Hid (Kept (fun q => q ≠ w2.heap.size ∧ q ≠ w3.heap.size) w9 wPA) := KPA.mono (fun q hq => hq.1)
           have SPA := HSeeT.out _ KKA.out.drew
           clear VPA
           go_simp
           refine hK.out _ _ ?_ (fun hH => ?_)
           · try dsimp only
             exact SPA
           clear hK K
           refine r1L 7 rfl fun K hK => ?_
           · have PB : Hid (Row wPA (w3.heap.size) 43 [.int .i64 0, .slice none 0 0, .int .i64 0, .slice none 0 0, .int .i64 0]) := Rq_9.out.keep (KPA.block _ (by have h7 := HZ.out; have h8 := HZ3.out; have h9 := HB0.out; have h10 := HHi.out; unfold Hid at h7 h8 h9 h10; show w3.heap.size ≠ w2.heap.size; omega))
             have sB0 := PB.out.cell (j := 0) rfl
             have uB0 := PB.out.frozen 0
             have sB1 := PB.out.cell (j := 1) rfl
             have uB1 := PB.out.frozen 1
             have sB2 := PB.out.cell (j := 2) rfl
             have uB2 := PB.out.frozen 2
             have sB3 := PB.out.cell (j := 3) rfl
             have uB3 := PB.out.frozen 3
             have sB4 := PB.out.cell (j := 4) rfl
             have uB4 := PB.out.frozen 4
             obtain ⟨wPB, hwPB, VPB, KPB⟩ := PB.out.whole5 (.int .i64 E) (.slice none 0 0) (.int .i64 0) (.slice none 0 0) (.int .i64 (n : Int))
             have HVPB : Hid _ := VPB
             have KKB : Hid (Kept (fun q => q ≠ w2.heap.size ∧ q ≠ w3.heap.size) w9 wPB) := KKA.out.trans (KPB.mono (fun q hq => hq.2))
             have SPB := HSeeT.out _ KKB.out.drew
             clear VPB
             go_simp
             refine hK.out _ _ ?_ (fun hH => ?_)
             · try dsimp only
               exact SPB
             clear hK K
             refine wpAnyH_done (by kernel_rfl) ?_ _
             have VA9 : Hid (Row wPB.drew (w2.heap.size) 25 [.slice ua n uc, .slice va m vc, .int .i64 next]) := (HVPA.out.keep (KPB.block _ (by have h7 := HZ.out; have h8 := HZ3.out; have h9 := HB0.out; have h10 := HHi.out; unfold Hid at h7 h8 h9 h10; show w2.heap.size ≠ w3.heap.size; omega))).keep rfl
             have VB9 : Hid (Row wPB.drew _ _ _) := HVPB.out.keep rfl
             clear hH SPA SPB S0
             go_wp2
             refine bodyPost_ret (q0x rfl rfl rfl VA9.out VB9.out Try.underlying25 rfl (by kernel_rfl) Try.underlying43 rfl (by kernel_rfl)) rfl ⟨_, _, _, _, _, _, _, _, _, _, _, _, _, by rw [HdR.out], ?_, ?_, ?_, ?_⟩
             · rw [HdS.out]; exact rSta.weaken (Rep.kept HSt.out KKB.out.drew (fun q hq hl => by have h7 := HZ.out; have h8 := HZ3.out; have h9 := HB0.out; have h10 := HHi.out; unfold Hid at h7 h8 h9 h10; have h1 := hq.1; exact ⟨by show q ≠ _; omega, by show q ≠ _; omega⟩)) (fun q hq hl => by have h1 := hq.1; have h2 := HB0.out; show W.heap.size ≤ q; omega)
             · rw [HdR.out]; exact q0j _ _ _ _ (fun _ => rfl)
             · rw [HdR.out]; exact q0Z _ _
             · exact Kept.toBelow ((Kept.below B_9.out).trans (KKB.out.drew.mono (fun q hq => by have h7 := HZ.out; have h8 := HZ3.out; have h9 := HB0.out; have h10 := HHi.out; unfold Hid at h7 h8 h9 h10; have h1 : q < W.heap.size := hq; exact ⟨by show q ≠ _; omega, by show q ≠ _; omega⟩)))
       · skip
         subst hE0
         have HdS : Hid (Mo.doS s x = Mo.chgS s x) := (Mo.do_done HOk.out HOe.out).1
         have HdR : Hid (Mo.doR s x = (0, Mo.chgD s x, Mo.chgI s x, Mo.chgL s x, ((Mo.chgS s x).1.length : Int))) := (Mo.do_done HOk.out HOe.out).2
         have qx0 := Rx_9.out.cell (j := 0) rfl
         have qx1 := Rx_9.out.cell (j := 1) rfl
         have qx2 := Rx_9.out.cell (j := 2) rfl
         have qx3 := Rx_9.out.cell (j := 3) rfl
         have qx4 := Rx_9.out.cell (j := 4) rfl
         have qx5 := Rx_9.out.cell (j := 5) rfl
         have hch := docChange_u w9 w6.heap.size hi s ua va n uc m vc x (fun q => q < W.heap.size) xa xn xc HO9.out HOR.out HV9.out HLm.out HLn.out HHi.out.1 (by have h1 := HHi.out.2; have h2 := Ru_9.out.lt; omega) (rOpn_of' HIx.out Yd_9.out) (fun q hq => by have h1 := HB0.out; have h2 : q < W.heap.size := hq; unfold Hid at h1; omega) HOk.out HOe.out
         rw [← HNx.out] at hch
         go_wp2_with fail
         go_at_call 34
         refine Calls.mono (hch) ?_
         rintro e w10 ⟨a', n', c', b', m', d', t', da, dn, dc, la, ln, lc, rfl, h1, h2, h3, bb⟩
         obtain ⟨CI, hCI⟩ : ∃ z, z = Mo.chgI s x := ⟨_, rfl⟩
         rw [← hCI]
         have HCI : Hid (CI = Mo.chgI s x) := hCI
         have HLq : Hid ((Mo.chgS s x).1.length = n') := (q1Z h1).2.2.1
         clear hCI hch
         have Dz_10 : Hid (rSta.rd w10 (fun q => w6.heap.size ≤ q ∧ q < w10.heap.size) [.slice a' n' c', .slice b' m' d', .int .i64 t'] (Mo.chgS s x)) := rSta.weaken h1 (fun q hq hl => ⟨hq, hl⟩)
         have Yz_10 : Hid (rBytes.rd w10 (fun q => w6.heap.size ≤ q ∧ q < w10.heap.size) [.slice da dn dc] (Mo.chgD s x)) := rBytes.weaken h2 (fun q hq hl => ⟨hq, hl⟩)
         have Nz_10 : Hid (rNmds.rd w10 (fun q => w6.heap.size ≤ q ∧ q < w10.heap.size) [.slice la ln lc] (Mo.chgL s x)) := rNmds.weaken h3 (fun q hq hl => ⟨hq, hl⟩)
         have Rp_10 : Hid (Row w10 (w2.heap.size) 25 [.slice none 0 0, .slice none 0 0, .int .i64 0]) := Rp_9.out.keep (bb.block _ (by have h7 := HZ.out; have h8 := HZ3.out; have h9 := HB0.out; have h10 := HHi.out; unfold Hid at h7 h8 h9 h10; show w2.heap.size < _; omega))
         have Rq_10 : Hid (Row w10 (w3.heap.size) 43 [.int .i64 0, .slice none 0 0, .int .i64 0, .slice none 0 0, .int .i64 0]) := Rq_9.out.keep (bb.block _ (by have h7 := HZ.out; have h8 := HZ3.out; have h9 := HB0.out; have h10 := HHi.out; unfold Hid at h7 h8 h9 h10; show w3.heap.size < _; omega))
         have B_10 : Hid (Below W.heap.size W w10) := B_9.out.trans (bb.mono (by have h1 := HB0.out; have h2 := B_9.out.size; omega))
         have HSZ : Hid (w6.heap.size ≤ w10.heap.size) := Nat.le_of_lt (Nat.lt_of_le_of_lt (Nat.le_trans HHi.out.1 HHi.out.2) (Nat.lt_of_lt_of_le Ru_9.out.lt bb.size))
         clear qu0 qu1 qu2 qx0 qx1 qx2 qx3 qx4 qx5
         clear h1 h2 h3 bb HO9 HV9 Rt_9 Rx_9 Rp_9 Rq_9 Ds_9 Yd_9 Ru_9
         obtain ⟨wA, wB, wX, w11, hA, hB, va, hX, vr, hY, vs, vt, kF, hl⟩ := fresh2D w10 (.slice a' n' c') (.slice b' m' d') (.int .i64 t') (.int .i64 0) (.slice da dn dc) (.int .i64 CI) (.slice la ln lc) (.int .i64 0)
         have Rg_11 : Hid _ := vs
         have Rh_11 : Hid _ := vt
         have Dz_11 : Hid (rSta.rd w11 (fun q => w6.heap.size ≤ q ∧ q < w10.heap.size) [.slice a' n' c', .slice b' m' d', .int .i64 t'] (Mo.chgS s x)) := Rep.below Dz_10.out (kF)
         have Yz_11 : Hid (rBytes.rd w11 (fun q => w6.heap.size ≤ q ∧ q < w10.heap.size) [.slice da dn dc] (Mo.chgD s x)) := Rep.below Yz_10.out (kF)
         have Nz_11 : Hid (rNmds.rd w11 (fun q => w6.heap.size ≤ q ∧ q < w10.heap.size) [.slice la ln lc] (Mo.chgL s x)) := Rep.below Nz_10.out (kF)
         have Rp_11 : Hid _ := Rp_10.out.below (kF)
         have Rq_11 : Hid _ := Rq_10.out.below (kF)
         have B_11 : Hid _ := on B_10.out (kF)
         clear Dz_10 Yz_10 Nz_10 Rp_10 Rq_10
         have p0 := va.cell (j := 0) rfl
         have r0 := va.frozen 0
         have p1 := va.cell (j := 1) rfl
         have r1 := va.frozen 1
         have p2 := va.cell (j := 2) rfl
         have r2 := va.frozen 2
         have s0 := vr.cell (j := 0) rfl
         have v0 := vr.frozen 0
         have s1 := vr.cell (j := 1) rfl
         have v1 := vr.frozen 1
         have s2 := vr.cell (j := 2) rfl
         have v2 := vr.frozen 2
         have s3 := vr.cell (j := 3) rfl
         have v3 := vr.frozen 3
         have s4 := vr.cell (j := 4) rfl
         have v4 := vr.frozen 4
         have HL : Hid _ := hl
         clear va vr vs vt kF hl
         have qg0 := Rg_11.out.cell (j := 0) rfl
         have pp := Rh_11.out.cell (j := 4) rfl
         have pf := Rh_11.out.frozen 4
         obtain ⟨w12, hs12⟩ : ∃ v, w11.setCell ⟨wA.heap.size, 4, none⟩ (.int .i64 (n' : Int)) = v := ⟨_, rfl⟩
         have KS : Hid (Kept (· ≠ wA.heap.size) w11 w12) := by rw [← hs12]; exact (Kept.refl _ w11).setCell (p := ⟨wA.heap.size, 4, none⟩) (fun h => h rfl) _
         have Dz_12 : Hid (rSta.rd w12 (fun q => w6.heap.size ≤ q ∧ q < w10.heap.size) [.slice a' n' c', .slice b' m' d', .int .i64 t'] (Mo.chgS s x)) := Rep.kept Dz_11.out KS.out (fun q hq hl => by have h7 := HZ.out; have h8 := HZ3.out; have h9 := HB0.out; have h10 := HHi.out; have h11 := HSZ.out; have h12 := HL.out; unfold Hid at h7 h8 h9 h10 h11 h12; have h1 := hq.2; show q ≠ wA.heap.size; omega)
         have Yz_12 : Hid (rBytes.rd w12 (fun q => w6.heap.size ≤ q ∧ q < w10.heap.size) [.slice da dn dc] (Mo.chgD s x)) := Rep.kept Yz_11.out KS.out (fun q hq hl => by have h7 := HZ.out; have h8 := HZ3.out; have h9 := HB0.out; have h10 := HHi.out; have h11 := HSZ.out; have h12 := HL.out; unfold Hid at h7 h8 h9 h10 h11 h12; have h1 := hq.2; show q ≠ wA.heap.size; omega)
         have Nz_12 : Hid (rNmds.rd w12 (fun q => w6.heap.size ≤ q ∧ q < w10.heap.size) [.slice la ln lc] (Mo.chgL s x)) := Rep.kept Nz_11.out KS.out (fun q hq hl => by have h7 := HZ.out; have h8 := HZ3.out; have h9 := HB0.out; have h10 := HHi.out; have h11 := HSZ.out; have h12 := HL.out; unfold Hid at h7 h8 h9 h10 h11 h12; have h1 := hq.2; show q ≠ wA.heap.size; omega)
         have Rp_12 : Hid (Row w12 (w2.heap.size) 25 [.slice none 0 0, .slice none 0 0, .int .i64 0]) := Rp_11.out.keep (KS.out.block _ (by have h7 := HZ.out; have h8 := HZ3.out; have h9 := HB0.out; have h10 := HHi.out; have h11 := HSZ.out; have h12 := HL.out; unfold Hid at h7 h8 h9 h10 h11 h12; show w2.heap.size ≠ wA.heap.size; omega))
         have Rq_12 : Hid (Row w12 (w3.heap.size) 43 [.int .i64 0, .slice none 0 0, .int .i64 0, .slice none 0 0, .int .i64 0]) := Rq_11.out.keep (KS.out.block _ (by have h7 := HZ.out; have h8 := HZ3.out; have h9 := HB0.out; have h10 := HHi.out; have h11 := HSZ.out; have h12 := HL.out; unfold Hid at h7 h8 h9 h10 h11 h12; show w3.heap.size ≠ wA.heap.size; omega))
         have Rg_12 : Hid (Row w12 (w10.heap.size) 25 [.slice a' n' c', .slice b' m' d', .int .i64 t']) := Rg_11.out.keep (KS.out.block _ (by have h7 := HZ.out; have h8 := HZ3.out; have h9 := HB0.out; have h10 := HHi.out; have h11 := HSZ.out; have h12 := HL.out; unfold Hid at h7 h8 h9 h10 h11 h12; show w10.heap.size ≠ wA.heap.size; omega))
         have Rh_12 : Hid (Row w12 (wA.heap.size) 43 [.int .i64 0, .slice da dn dc, .int .i64 CI, .slice la ln lc, .int .i64 (n' : Int)]) := by rw [← hs12]; exact Rh_11.out.set 4 _
         have B_12 : Hid (Below W.heap.size W w12) := Kept.belowOf B_11.out KS.out (by have h7 := HZ.out; have h8 := HZ3.out; have h9 := HB0.out; have h10 := HHi.out; have h11 := HSZ.out; have h12 := HL.out; unfold Hid at h7 h8 h9 h10 h11 h12; have h1 := B_11.out.size; omega)
         clear KS Dz_11 Yz_11 Nz_11 Rp_11 Rq_11 Rg_11 Rh_11
         go_wp2_with fail
         clear p0 r0 p1 r1 p2 r2 s0 v0 s1 v1 s2 v2 s3 v3 s4 v4 hA hB hX hY qg0 pp pf hs12
         have HSeeT : Hid (∀ w', Kept (fun q => q ≠ w2.heap.size ∧ q ≠ w3.heap.size) w12 w' → w'.cell? ⟨w10.heap.size, 0, none⟩ = some (.slice a' n' c') ∧ w'.cell? ⟨w10.heap.size, 1, none⟩ = some (.slice b' m' d') ∧ w'.cell? ⟨w10.heap.size, 2, none⟩ = some (.int .i64 t') ∧ w'.cell? ⟨wA.heap.size, 0, none⟩ = some (.int .i64 0) ∧ w'.cell? ⟨wA.heap.size, 1, none⟩ = some (.slice da dn dc) ∧ w'.cell? ⟨wA.heap.size, 2, none⟩ = some (.int .i64 CI) ∧ w'.cell? ⟨wA.heap.size, 3, none⟩ = some (.slice la ln lc) ∧ w'.cell? ⟨wA.heap.size, 4, none⟩ = some (.int .i64 (n' : Int))) := fun w' hk => ⟨hk.cell (p := ⟨w10.heap.size, 0, none⟩) (by have h7 := HZ.out; have h8 := HZ3.out; have h9 := HB0.out; have h10 := HHi.out; have h11 := HSZ.out; have h12 := HL.out; unfold Hid at h7 h8 h9 h10 h11 h12; exact ⟨by show w10.heap.size ≠ w2.heap.size; omega, by show w10.heap.size ≠ w3.heap.size; omega⟩) (Rg_12.out.cell (j := 0) rfl), hk.cell (p := ⟨w10.heap.size, 1, none⟩) (by have h7 := HZ.out; have h8 := HZ3.out; have h9 := HB0.out; have h10 := HHi.out; have h11 := HSZ.out; have h12 := HL.out; unfold Hid at h7 h8 h9 h10 h11 h12; exact ⟨by show w10.heap.size ≠ w2.heap.size; omega, by show w10.heap.size ≠ w3.heap.size; omega⟩) (Rg_12.out.cell (j := 1) rfl), hk.cell (p := ⟨w10.heap.size, 2, none⟩) (by have h7 := HZ.out; have h8 := HZ3.out; have h9 := HB0.out; have h10 := HHi.out; have h11 := HSZ.out; have h12 := HL.out; unfold Hid at h7 h8 h9 h10 h11 h12; exact ⟨by show w10.heap.size ≠ w2.heap.size; omega, by show w10.heap.size ≠ w3.heap.size; omega⟩) (Rg_12.out.cell (j := 2) rfl), hk.cell (p := ⟨wA.heap.size, 0, none⟩) (by have h7 := HZ.out; have h8 := HZ3.out; have h9 := HB0.out; have h10 := HHi.out; have h11 := HSZ.out; have h12 := HL.out; unfold Hid at h7 h8 h9 h10 h11 h12; exact ⟨by show wA.heap.size ≠ w2.heap.size; omega, by show wA.heap.size ≠ w3.heap.size; omega⟩) (Rh_12.out.cell (j := 0) rfl), hk.cell (p := ⟨wA.heap.size, 1, none⟩) (by have h7 := HZ.out; have h8 := HZ3.out; have h9 := HB0.out; have h10 := HHi.out; have h11 := HSZ.out; have h12 := HL.out; unfold Hid at h7 h8 h9 h10 h11 h12; exact ⟨by show wA.heap.size ≠ w2.heap.size; omega, by show wA.heap.size ≠ w3.heap.size; omega⟩) (Rh_12.out.cell (j := 1) rfl), hk.cell (p := ⟨wA.heap.size, 2, none⟩) (by have h7 := HZ.out; have h8 := HZ3.out; have h9 := HB0.out; have h10 := HHi.out; have h11 := HSZ.out; have h12 := HL.out; unfold Hid at h7 h8 h9 h10 h11 h12; exact ⟨by show wA.heap.size ≠ w2.heap.size; omega, by show wA.heap.size ≠ w3.heap.size; omega⟩) (Rh_12.out.cell (j := 2) rfl), hk.cell (p := ⟨wA.heap.size, 3, none⟩) (by have h7 := HZ.out; have h8 := HZ3.out; have h9 := HB0.out; have h10 := HHi.out; have h11 := HSZ.out; have h12 := HL.out; unfold Hid at h7 h8 h9 h10 h11 h12; exact ⟨by show wA.heap.size ≠ w2.heap.size; omega, by show wA.heap.size ≠ w3.heap.size; omega⟩) (Rh_12.out.cell (j := 3) rfl), hk.cell (p := ⟨wA.heap.size, 4, none⟩) (by have h7 := HZ.out; have h8 := HZ3.out; have h9 := HB0.out; have h10 := HHi.out; have h11 := HSZ.out; have h12 := HL.out; unfold Hid at h7 h8 h9 h10 h11 h12; exact ⟨by show wA.heap.size ≠ w2.heap.size; omega, by show wA.heap.size ≠ w3.heap.size; omega⟩) (Rh_12.out.cell (j := 4) rfl)⟩
         have S0 := HSeeT.out _ (Kept.refl _ w12).drew
         go_wp2_with fail
         refine wp_region_held_drew (S := (fun w' : World => w'.cell? ⟨w10.heap.size, 0, none⟩ = some (.slice a' n' c') ∧ w'.cell? ⟨w10.heap.size, 1, none⟩ = some (.slice b' m' d') ∧ w'.cell? ⟨w10.heap.size, 2, none⟩ = some (.int .i64 t') ∧ w'.cell? ⟨wA.heap.size, 0, none⟩ = some (.int .i64 0) ∧ w'.cell? ⟨wA.heap.size, 1, none⟩ = some (.slice da dn dc) ∧ w'.cell? ⟨wA.heap.size, 2, none⟩ = some (.int .i64 CI) ∧ w'.cell? ⟨wA.heap.size, 3, none⟩ = some (.slice la ln lc) ∧ w'.cell? ⟨wA.heap.size, 4, none⟩ = some (.int .i64 (n' : Int)))) (by kernel_rfl) (S0) (fun hH => ?_)
         refine tkM 0 _ rfl rfl ?_; simp only [sz, ss]
         refine tkM 1 _ rfl rfl ?_; simp only [sz, ss]
         refine r1L 2 rfl fun K hK => ?_
         · have PA : Hid (Row w12 (w2.heap.size) 25 [.slice none 0 0, .slice none 0 0, .int .i64 0]) := Rp_12.out
           have sA0 := PA.out.cell (j := 0) rfl
           have uA0 := PA.out.frozen 0
           have sA1 := PA.out.cell (j := 1) rfl
           have uA1 := PA.out.frozen 1
           have sA2 := PA.out.cell (j := 2) rfl
           have uA2 := PA.out.frozen 2
           obtain ⟨wPA, hwPA, VPA, KPA⟩ := PA.out.whole3 (.slice a' n' c') (.slice b' m' d') (.int .i64 t')
           have HVPA : Hid _ := VPA
           have KKA : Hid (Kept (fun q => q ≠ w2.heap.size ∧ q ≠ w3.heap.size) w12 wPA) := KPA.mono (fun q hq => hq.1)
           have SPA := HSeeT.out _ KKA.out.drew
           clear VPA
           go_simp
           refine hK.out _ _ ?_ (fun hH => ?_)
           · try dsimp only
             exact SPA
           clear hK K
           refine r1L 3 rfl fun K hK => ?_
           · have PB : Hid (Row wPA (w3.heap.size) 43 [.int .i64 0, .slice none 0 0, .int .i64 0, .slice none 0 0, .int .i64 0]) := Rq_12.out.keep (KPA.block _ (by have h7 := HZ.out; have h8 := HZ3.out; have h9 := HB0.out; have h10 := HHi.out; have h11 := HSZ.out; have h12 := HL.out; unfold Hid at h7 h8 h9 h10 h11 h12; show w3.heap.size ≠ w2.heap.size; omega))
             have sB0 := PB.out.cell (j := 0) rfl
             have uB0 := PB.out.frozen 0
             have sB1 := PB.out.cell (j := 1) rfl
             have uB1 := PB.out.frozen 1
             have sB2 := PB.out.cell (j := 2) rfl
             have uB2 := PB.out.frozen 2
             have sB3 := PB.out.cell (j := 3) rfl
             have uB3 := PB.out.frozen 3
             have sB4 := PB.out.cell (j := 4) rfl
             have uB4 := PB.out.frozen 4
             obtain ⟨wPB, hwPB, VPB, KPB⟩ := PB.out.whole5 (.int .i64 0) (.slice da dn dc) (.int .i64 CI) (.slice la ln lc) (.int .i64 (n' : Int))
             have HVPB : Hid _ := VPB
             have KKB : Hid (Kept (fun q => q ≠ w2.heap.size ∧ q ≠ w3.heap.size) w12 wPB) := KKA.out.trans (KPB.mono (fun q hq => hq.2))
             have SPB := HSeeT.out _ KKB.out.drew
             clear VPB
             go_simp
             refine hK.out _ _ ?_ (fun hH => ?_)
             · try dsimp only
               exact SPB
             clear hK K
             refine wpAnyH_done (by kernel_rfl) ?_ _
             have VA9 : Hid (Row wPB.drew (w2.heap.size) 25 [.slice a' n' c', .slice b' m' d', .int .i64 t']) := (HVPA.out.keep (KPB.block _ (by have h7 := HZ.out; have h8 := HZ3.out; have h9 := HB0.out; have h10 := HHi.out; have h11 := HSZ.out; have h12 := HL.out; unfold Hid at h7 h8 h9 h10 h11 h12; show w2.heap.size ≠ w3.heap.size; omega))).keep rfl
             have VB9 : Hid (Row wPB.drew _ _ _) := HVPB.out.keep rfl
             clear hH SPA SPB S0
             go_wp2
             refine bodyPost_ret (q0x rfl rfl rfl VA9.out VB9.out Try.underlying25 rfl (by kernel_rfl) Try.underlying43 rfl (by kernel_rfl)) rfl ⟨_, _, _, _, _, _, _, _, _, _, _, _, _, by rw [HdR.out, HLq.out, ← HCI.out], ?_, ?_, ?_, ?_⟩
             · rw [HdS.out]; exact rSta.weaken (Rep.kept Dz_12.out KKB.out.drew (fun q hq hl => by have h7 := HZ.out; have h8 := HZ3.out; have h9 := HB0.out; have h10 := HHi.out; have h11 := HSZ.out; have h12 := HL.out; unfold Hid at h7 h8 h9 h10 h11 h12; have h1 := hq.1; exact ⟨by show q ≠ _; omega, by show q ≠ _; omega⟩)) (fun q hq hl => by have h1 := hq.1; have h2 := HB0.out; show W.heap.size ≤ q; omega)
             · rw [HdR.out]; exact rBytes.weaken (Rep.kept Yz_12.out KKB.out.drew (fun q hq hl => by have h7 := HZ.out; have h8 := HZ3.out; have h9 := HB0.out; have h10 := HHi.out; have h11 := HSZ.out; have h12 := HL.out; unfold Hid at h7 h8 h9 h10 h11 h12; have h1 := hq.1; exact ⟨by show q ≠ _; omega, by show q ≠ _; omega⟩)) (fun q hq hl => by have h1 := hq.1; have h2 := HB0.out; show W.heap.size ≤ q; omega)
             · rw [HdR.out]; exact rNmds.weaken (Rep.kept Nz_12.out KKB.out.drew (fun q hq hl => by have h7 := HZ.out; have h8 := HZ3.out; have h9 := HB0.out; have h10 := HHi.out; have h11 := HSZ.out; have h12 := HL.out; unfold Hid at h7 h8 h9 h10 h11 h12; have h1 := hq.1; exact ⟨by show q ≠ _; omega, by show q ≠ _; omega⟩)) (fun q hq hl => by have h1 := hq.1; have h2 := HB0.out; show W.heap.size ≤ q; omega)
             · exact Kept.toBelow ((Kept.below B_12.out).trans (KKB.out.drew.mono (fun q hq => by have h7 := HZ.out; have h8 := HZ3.out; have h9 := HB0.out; have h10 := HHi.out; have h11 := HSZ.out; have h12 := HL.out; unfold Hid at h7 h8 h9 h10 h11 h12; have h1 : q < W.heap.size := hq; exact ⟨by show q ≠ _; omega, by show q ≠ _; omega⟩)))
end Go.Proofs.Ytoophkmnppoppaa
namespace Go.Proofs.Ytoophkmnppoppaa
set_option maxHeartbeats 16000000
open Go.RowKit
theorem q6j {w w' : World} (h : Below w.heap.size w w') : Below w.drew.heap.size w.drew w'.drew := ⟨h.os, h.tape, h.output, h.size, h.block⟩
end Go.Proofs.Ytoophkmnppoppaa
namespace Go.Proofs.Ytoophkmnppoppaa
set_option maxHeartbeats 16000000
open Go.RowKit
set_option linter.unusedVariables false
set_option maxRecDepth 20000 in
theorem qHq (w : World) (P Q : Nat → Prop) (r : Rpl) (a b la lb : Option Addr) (n c n' c' m d m' d' : Nat) (hA : rBytes.rd w P [.slice a n c] r.2.1) (hB : rBytes.rd w Q [.slice b n' c'] r.2.1) (hL : rNmds.rd w P [.slice la m d] r.2.2.2.1) (hK : rNmds.rd w Q [.slice lb m' d'] r.2.2.2.1) :
 Calls Try.prog 14 #[.agg #[.int .i64 r.1, .slice a n c, .int .i64 r.2.2.1, .slice la m d, .int .i64 r.2.2.2.2], .agg #[.int .i64 r.1, .slice b n' c', .int .i64 r.2.2.1, .slice lb m' d', .int .i64 r.2.2.2.2]] w fun e w' => e = .returned (.int .i64 0) ∧ Below w.heap.size w w' := by
 obtain rfl : n = n' := by rw [← (q0Q hA).1, ← (q0Q hB).1]
 obtain rfl : m = m' := by rw [← (q0Q hL).1, ← (q0Q hK).1]
 obtain ⟨er, dt, i, l, z⟩ := r
 simp only at hA hB hL hK ⊢
 have HM : Hid (l.length = m) := (q0Q hL).1
 have hm0 : m ≤ 5864062014634 := by have : m * 24 ≤ 140737488351232 := (q0Q hL).2.2.2; omega
 obtain ⟨w0, hw0, V0, b0, z0⟩ := q0q w 38 [.int .i64 er, .slice a n c, .int .i64 i, .slice la m d, .int .i64 z]
 obtain ⟨w1, hw1, V1, b1, z1⟩ := q0q w0 43 [.int .i64 er, .slice b n c', .int .i64 i, .slice lb m d', .int .i64 z]
 have X1 : Hid (Row w1 w.heap.size 38 [.int .i64 er, .slice a n c, .int .i64 i, .slice la m d, .int .i64 z]) := V0.below b1
 have Y1 : Hid _ := V1
 have B1 : Hid (Below w.heap.size w w1) := on b0 b1
 have HA1 : Hid (IsB w1 a n dt) := (q1Q (Rep.below hA B1.out)).1
 have HB1 : Hid (IsB w1 b n dt) := (q1Q (Rep.below hB B1.out)).1
 have HL1 : Hid (rNmds.rd w1 P [.slice la m d] l) := Rep.below hL B1.out
 have HK1 : Hid (rNmds.rd w1 Q [.slice lb m d'] l) := Rep.below hK B1.out
 have q0 := X1.out.cell (j := 0) rfl
 have q1 := X1.out.cell (j := 1) rfl
 have q2 := X1.out.cell (j := 2) rfl
 have q3 := X1.out.cell (j := 3) rfl
 have q4 := X1.out.cell (j := 4) rfl
 have r0 := Y1.out.cell (j := 0) rfl
 have r1 := Y1.out.cell (j := 1) rfl
 have r2 := Y1.out.cell (j := 2) rfl
 have r3 := Y1.out.cell (j := 3) rfl
 have r4 := Y1.out.cell (j := 4) rfl
 clear V0 V1 b0 b1 z0 z1 hA hB hL hK
 go_enter Try.func14, Try.ntmps14
 go_wp2_with (go_at_call 18; refine (qAq _ a b n c n c' dt dt HA1.out HB1.out).mono ?_; rintro e w2 ⟨rfl, rfl⟩; rw [beq_self_eq_true])
 clear q0 q1 q2 q3 q4 r0 r1 r2 r3 r4 hw0 hw1
 go_loopw [5] (fun i wr => ∃ k : Nat, k ≤ m ∧ i = .int .i64 k ∧ Below w1.heap.size w1 wr) (fun i _ => m - (intOf i).toNat)
 case atStart => exact ⟨0, Nat.zero_le _, rfl, Below.refl _ _⟩
 case round =>
  obtain ⟨k, hk, rfl, bk⟩ := hrel
  have q3 := (X1.out.below bk).cell (j := 3) rfl
  have r3 := (Y1.out.below bk).cell (j := 3) rfl
  have BK : Hid _ := bk
  by_cases hlt : k < m
  · have hkl : k < l.length := by rw [HM.out]; exact hlt
    obtain ⟨g, off, rfl, -, hgl, hat⟩ := q8Q (Rep.below HL1.out bk) (by omega)
    obtain ⟨g', off', rfl, -, hgl', hbt⟩ := q8Q (Rep.below HK1.out bk) (by omega)
    obtain ⟨c0, c1, -, -⟩ := hat k hkl
    obtain ⟨d0, d1, -, -⟩ := hbt k hkl
    have hI : (k : Int) < (m : Int) := by omega
    clear hat hbt bk
    generalize l[k].1 = id at *
    generalize l[k].2 = nm at *
    have e1 : (id == id) = true := beq_self_eq_true _
    have e2 : (nm.toList == nm.toList) = true := beq_self_eq_true _
    go_wp2_with fail
    go_quiet (fail)
    go_wp2
    go_roundw
    case rel => exact ⟨k + 1, by omega, by go_num, below_drewN BK.out _⟩
    case measure => simp [intOf]; omega
  · obtain rfl : k = m := by omega
    go_wp2
    go_ret
    exact ⟨rfl, on B1.out BK.out⟩
structure Spoilt (S : Nat → Prop) (w w' : World) : Prop where
 os : w'.os = w.os
 tape : w'.tape = w.tape
 output : w'.output = w.output
 size : w'.heap.size = w.heap.size
 block : ∀ b, ¬ S b → w'.heap[b]? = w.heap[b]?
 u8 : ∀ a n, w.cell? a = some (.int .u8 n) → ∃ n', w'.cell? a = some (.int .u8 n')
 other : ∀ a v, w.cell? a = some v → (∀ n, v ≠ .int .u8 n) → w'.cell? a = some v
 frozen : ∀ a, w'.frozen? a = w.frozen? a
theorem Spoilt.refl (S : Nat → Prop) (w : World) : Spoilt S w w := ⟨rfl, rfl, rfl, rfl, fun _ _ => rfl, fun _ n h => ⟨n, h⟩, fun _ _ h _ => h, fun _ => rfl⟩
theorem Spoilt.trans {S : Nat → Prop} {a b c : World} (h : Spoilt S a b) (k : Spoilt S b c) : Spoilt S a c :=
 ⟨k.os.trans h.os, k.tape.trans h.tape, k.output.trans h.output, k.size.trans h.size, fun i hi => (k.block i hi).trans (h.block i hi),
  fun x n hx => by obtain ⟨n', h1⟩ := h.u8 x n hx; exact k.u8 x n' h1, fun x v hx hv => k.other x v (h.other x v hx hv) hv, fun x => (k.frozen x).trans (h.frozen x)⟩
theorem Spoilt.kept {S : Nat → Prop} {w w' : World} (h : Spoilt S w w') : Kept (fun b => ¬ S b) w w' := ⟨h.os, h.tape, h.output, by rw [h.size]; exact Nat.le_refl _, fun b hb => h.block b hb⟩
theorem Spoilt.set {S : Nat → Prop} {w : World} {p : Addr} {n : Int} (hp : w.cell? p = some (.int .u8 n)) (hs : S p.block) (n' : Int) : Spoilt S w (w.setCell p (.int .u8 n')) := by
 refine ⟨rfl, rfl, rfl, by simp, fun b hb => Below.heap_setCell _ _ _ _ (fun e => hb (e ▸ hs)), fun a m ha => ?_, fun a v ha hv => ?_, fun a => World.frozen?_setCell ..⟩
 · by_cases e : a = p
   · subst e; exact ⟨n', World.cell?_setCell_same _ _ _ ha⟩
   · exact ⟨m, by rw [World.cell?_setCell_other _ _ _ _ (fun h => e h.symm)]; exact ha⟩
 · by_cases e : a = p
   · subst e; rw [hp] at ha; cases ha; exact absurd rfl (hv n)
   · rw [World.cell?_setCell_other _ _ _ _ (fun h => e h.symm)]; exact ha
def Octs (S : Nat → Prop) (w : World) (a : Option Addr) (n : Nat) : Prop :=
 n = 0 ∨ ∃ b off, a = some ⟨b, off, none⟩ ∧ S b ∧ ∀ j, j < n → (∃ m, w.cell? ⟨b, off + j, none⟩ = some (.int .u8 m)) ∧ w.frozen? ⟨b, off + j, none⟩ = false
theorem Octs.spoilt {S : Nat → Prop} {w w' : World} {a : Option Addr} {n : Nat} (h : Octs S w a n) (k : Spoilt S w w') : Octs S w' a n := by
 rcases h with h | ⟨b, off, h1, h2, h3⟩
 · exact .inl h
 · exact .inr ⟨b, off, h1, h2, fun j hj => ⟨by obtain ⟨m, hm⟩ := (h3 j hj).1; exact k.u8 _ _ hm, by rw [k.frozen]; exact (h3 j hj).2⟩⟩
theorem qIx {w : World} {P : Nat → Prop} {a : Option Addr} {n c : Nat} {l : List UInt8} (h : rFree.rd w P [.slice a n c] l) : Octs P w a n := by
 have hl := (q1Q h.1).1.1
 by_cases h0 : n = 0
 · exact .inl h0
 · obtain ⟨b, off, e1, e2, e3, e4⟩ := q7x (A := rByte) h.1 (by omega)
   subst e1
   refine .inr ⟨b, off, rfl, e2, fun j hj => ⟨?_, ?_⟩⟩
   · obtain ⟨cj, g1, g2⟩ := e4 j (by omega)
     have g1' : cj = [.int .u8 (l[j].toNat : Int)] := g1
     subst g1'
     have := g2 0 _ rfl
     rw [show j * rByte.size + 0 = j from by show j * 1 + 0 = j; omega] at this
     exact ⟨_, this⟩
   · have := h.2 _ _ _ rfl _ rfl j hj
     rwa [Addr.add_lit] at this
theorem spoil_s (w : World) (S : Nat → Prop) (a : Option Addr) (n c : Nat) (hn : n ≤ 140737488355328) (h : Octs S w a n) :
 Calls Try.prog 25 #[.slice a n c] w fun e w' => e = .returned (.tuple #[]) ∧ Spoilt S w w' := by
 have H : Hid (Octs S w a n) := h
 clear h
 go_enter Try.func25, Try.ntmps25
 go_wp2
 go_loopw [2] (fun i wr => ∃ k : Nat, k ≤ n ∧ i = .int .i64 k ∧ Hid (Spoilt S w wr)) (fun i _ => n - (intOf i).toNat)
 case atStart => exact ⟨0, Nat.zero_le _, rfl, Spoilt.refl _ _⟩
 case round =>
  obtain ⟨k, hk, rfl, SP⟩ := hrel
  by_cases hlt : k < n
  · rcases Octs.spoilt H.out SP.out with h0 | ⟨b, off, rfl, hs, hat⟩
    · omega
    · obtain ⟨⟨m, hm⟩, hf⟩ := hat k hlt
      have HC : Hid _ := hm
      have HS : Hid _ := hs
      clear hat hs
      go_wp2
      go_roundw
      case rel => exact ⟨k + 1, by omega, by go_num, SP.out.trans (Spoilt.set HC.out HS.out _)⟩
      case measure => simp [intOf]; omega
  · go_wp2
    go_end0
    exact ⟨rfl, SP.out⟩
def OctsAll (S : Nat → Prop) (w : World) (a : Option Addr) (n : Nat) : Prop :=
 n = 0 ∨ ∃ b off, a = some ⟨b, off, none⟩ ∧ ∀ j, j < n → ∃ x m d, w.cell? ⟨b, off + j, none⟩ = some (.slice x m d) ∧ m ≤ 140737488355328 ∧ Octs S w x m
theorem OctsAll.spoilt {S : Nat → Prop} {w w' : World} {a : Option Addr} {n : Nat} (h : OctsAll S w a n) (k : Spoilt S w w') : OctsAll S w' a n := by
 rcases h with h | ⟨b, off, h1, h3⟩
 · exact .inl h
 · exact .inr ⟨b, off, h1, fun j hj => by obtain ⟨x, m, d, g1, g2, g3⟩ := h3 j hj; exact ⟨x, m, d, k.other _ _ g1 (fun n e => by cases e), g2, g3.spoilt k⟩⟩
theorem qHQ {w : World} {P : Nat → Prop} {a : Option Addr} {n c : Nat} {L : List (List UInt8)} (h : rFrees.rd w P [.slice a n c] L) : OctsAll P w a n := by
 by_cases h0 : n = 0
 · exact .inl h0
 · have hl := (q5q (q7Z h)).1
   obtain ⟨b, off, e1, -, -, e4⟩ := q7x h (by omega)
   refine .inr ⟨b, off, e1, fun j hj => ?_⟩
   obtain ⟨cj, g1, g2⟩ := e4 j (by omega)
   have g1' := g1
   obtain ⟨⟨x, m, d, rfl, -⟩, -⟩ := g1
   have := g2 0 (.slice x m d) rfl
   rw [show j * rFree.size + 0 = j from by show j * 1 + 0 = j; omega] at this
   exact ⟨x, m, d, this, by have := (q1Q g1'.1).2.2.2; omega, qIx g1'⟩
theorem qEx (w : World) (S : Nat → Prop) (a : Option Addr) (n c : Nat) (hn : n ≤ 5864062014634) (h : OctsAll S w a n) :
 Calls Try.prog 26 #[.slice a n c] w fun e w' => e = .returned (.tuple #[]) ∧ Spoilt S w w' := by
 have H : Hid (OctsAll S w a n) := h
 clear h
 go_enter Try.func26, Try.ntmps26
 go_wp2
 go_loopw [2] (fun i wr => ∃ k : Nat, k ≤ n ∧ i = .int .i64 k ∧ Hid (Spoilt S w wr)) (fun i _ => n - (intOf i).toNat)
 case atStart => exact ⟨0, Nat.zero_le _, rfl, Spoilt.refl _ _⟩
 case round =>
  obtain ⟨k, hk, rfl, SP⟩ := hrel
  by_cases hlt : k < n
  · rcases OctsAll.spoilt H.out SP.out with h0 | ⟨b, off, rfl, hat⟩
    · omega
    · obtain ⟨x, m, d, hc, hm, ho⟩ := hat k hlt
      have HO : Hid _ := ho
      clear hat ho
      go_wp2_with (go_at_call 25; refine (spoil_s _ S x m d hm HO.out).mono ?_; rintro e w5 ⟨rfl, sp5⟩)
      go_roundw
      case rel => exact ⟨k + 1, by omega, by go_num, SP.out.trans sp5⟩
      case measure => simp [intOf]; omega
  · go_wp2
    go_end0
    exact ⟨rfl, SP.out⟩
end Go.Proofs.Ytoophkmnppoppaa
