/-
  Facts that the proof rests on, part 25. Conditions: those that each of them names.
-/
import Derived.Test.YtoophkmnppoppaaM10
import Derived.Test.YtoophkmnppoppaaM17
import Derived.Test.YtoophkmnppoppaaM18
import Derived.Test.YtoophkmnppoppaaM21
namespace Go.Proofs.Ytoophkmnppoppaa
set_option maxHeartbeats 16000000
open Go.RowKit
set_option linter.unusedVariables false
set_option maxRecDepth 20000 in
theorem docChg3_u (W : World) (base hi : Nat) (s : Sta) (ua va : Option Addr) (n uc m vc : Nat) (x : Opn) (P : Nat → Prop) (xa : Option Addr) (xn xc : Nat)
 (hO : OwnsQ rBytes 26 W base (fun q => base ≤ q ∧ q < hi) (.slice ua n uc) s.1) (hOr : ∀ k, (Value.slice ua n uc).ownBlock = some k → k < hi) (hV : Owns rSnp 67 W hi (.slice va m vc) s.2.1) (hlm : s.2.1.length = m) (hln : s.1.length = n) (hb : base ≤ hi) (hh : hi ≤ W.heap.size)
 (hx : rOpn.rd W P [.int .i64 x.1, .int .i64 x.2.1, .int .i64 x.2.2.1, .int .i64 x.2.2.2.1, .string x.2.2.2.2.1, .slice xa xn xc] x) (hP : ∀ q, P q → q < base) (hok : Mo.ok s = true) (hE : Mo.opE s x = 0) (hw : x.1 = 3) :
 Calls Try.prog 34 #[.agg #[.slice ua n uc, .slice va m vc, .int .i64 s.2.2], .agg #[.int .i64 x.1, .int .i64 x.2.1, .int .i64 x.2.2.1, .int .i64 x.2.2.2.1, .string x.2.2.2.2.1, .slice xa xn xc]] W fun e w' => ∃ (a' : Option Addr) (n' c' : Nat) (b' : Option Addr) (m' d' : Nat) (t' : Int) (da : Option Addr) (dn dc : Nat) (la : Option Addr) (ln lc : Nat),
  e = .returned (.tuple #[.agg #[.slice a' n' c', .slice b' m' d', .int .i64 t'], .agg #[.int .i64 0, .slice da dn dc, .int .i64 (Mo.chgI s x), .slice la ln lc, .int .i64 0]]) ∧
  rSta.rd w' (fun q => base ≤ q) [.slice a' n' c', .slice b' m' d', .int .i64 t'] (Mo.chgS s x) ∧ rBytes.rd w' (fun q => base ≤ q) [.slice da dn dc] (Mo.chgD s x) ∧ rNmds.rd w' (fun q => base ≤ q) [.slice la ln lc] (Mo.chgL s x) ∧ Below base W w' := by
 have HF : Hid _ := (Mo.ok_iff s).1 hok
 have hm8 : m ≤ 8 := by have h1 := HF.out.few; omega
 have hn6 : n ≤ 65536 := by have h1 := (Mo.okDisk_iff.1 HF.out.now).1; omega
 have hN := OwnsQ.rdQ (hs := by decide) hO hln (by show n * 24 ≤ _; omega) (fun k hk => ⟨(hO.row k hk).1, hOr k hk⟩)
 obtain ⟨va', vc', e2, hL⟩ := Owns.rd (hs := by decide) hV (by rw [hlm]; show m * 48 ≤ _; omega)
 rw [hlm] at e2 hL
 simp only [Value.slice.injEq, true_and] at e2
 obtain ⟨rfl, rfl⟩ := e2
 obtain ⟨next, hnx⟩ : ∃ next, next = s.2.2 := ⟨_, rfl⟩
 have HNx : Hid (s.2.2 = next) := hnx.symm
 have HI : Hid (I64 next ∧ 1 ≤ next ∧ next ≤ 255) := by have h1 := HF.out.low; have h2 := HF.out.high; unfold Hid I64; omega
 rw [← hnx]
 have hS0 : rSta.rd W (fun q => base ≤ q ∧ q < W.heap.size) [.slice ua n uc, .slice va m vc, .int .i64 next] s := ⟨[_], [_, _], rfl, rSectors.weaken hN (fun q hq _ => ⟨hq.1, by omega⟩), [_], [_], rfl, rSnps.weaken hL (fun q hq hl => ⟨by have h : hi ≤ q := hq; omega, hl⟩), by rw [← hnx], by rw [← hnx]; exact HI.out.1⟩
 obtain ⟨xa', xn', xc', ex, hd, i0, i1, i2, i3, i4⟩ := q1X hx
 simp only [List.cons.injEq, Value.slice.injEq, and_true, true_and] at ex
 obtain ⟨rfl, rfl, rfl⟩ := ex
 have hd0 : rBytes.rd W (fun q => q < base ∧ q < W.heap.size) [.slice xa xn xc] x.2.2.2.2.2 := rBytes.weaken hd (fun q hq hl => ⟨hP q hq, hl⟩)
 have HIx : Hid (I64 x.1 ∧ I64 x.2.1 ∧ I64 x.2.2.1 ∧ I64 x.2.2.2.1 ∧ x.2.2.2.2.1.size ≤ maxLen) := ⟨i0, i1, i2, i3, i4⟩
 have HLm : Hid (s.2.1.length = m) := hlm
 have HLn : Hid (s.1.length = n) := hln
 have HE : Hid (Mo.opE s x = 0) := hE
 have HOk : Hid (Mo.ok s = true) := hok
 obtain ⟨w1, hw1, V1, b1, z1⟩ := q0q W 25 [.slice ua n uc, .slice va m vc, .int .i64 next]
 obtain ⟨w2, hw2, V2, b2, z2⟩ := q0q w1 28 [.int .i64 x.1, .int .i64 x.2.1, .int .i64 x.2.2.1, .int .i64 x.2.2.2.1, .string x.2.2.2.2.1, .slice xa xn xc]
 obtain ⟨w3, hw3, V3, b3, z3⟩ := q0q w2 25 [.slice none 0 0, .slice none 0 0, .int .i64 0]
 obtain ⟨w4, hw4, V4, b4, z4⟩ := q0q w3 43 [.int .i64 0, .slice none 0 0, .int .i64 0, .slice none 0 0, .int .i64 0]
 obtain ⟨w5, hw5, V5, b5, z5⟩ := q0q w4 43 [.int .i64 0, .slice none 0 0, .int .i64 0, .slice none 0 0, .int .i64 0]
 have HZ : Hid (w1.heap.size = W.heap.size + 1 ∧ w2.heap.size = W.heap.size + 2 ∧ w3.heap.size = W.heap.size + 3 ∧ w4.heap.size = W.heap.size + 4 ∧ w5.heap.size = W.heap.size + 5) := by unfold Hid; omega
 have HB : Hid (base ≤ hi ∧ hi ≤ W.heap.size ∧ m ≤ 8 ∧ n ≤ 65536) := ⟨hb, hh, hm8, hn6⟩
 have bel : Below W.heap.size W w5 := on (on (on (on b1 b2) b3) b4) b5
 have Rt_5 : Hid _ := (((V1.below b2).below b3).below b4).below b5
 have Rx_5 : Hid _ := ((V2.below b3).below b4).below b5
 have Rp_5 : Hid _ := (V3.below b4).below b5
 have Rq_5 : Hid (Row w5 (w3.heap.size) 43 [.int .i64 0, .slice none 0 0, .int .i64 0, .slice none 0 0, .int .i64 0]) := V4.below b5
 have Rr_5 : Hid _ := V5
 have Ds_5 : Hid (rSta.rd w5 (fun q => base ≤ q ∧ q < W.heap.size) [.slice ua n uc, .slice va m vc, .int .i64 next] (s)) := Rep.below hS0 bel
 have Yd_5 : Hid (rBytes.rd w5 (fun q => q < base ∧ q < W.heap.size) [.slice xa xn xc] (x.2.2.2.2.2)) := Rep.below hd0 bel
 have Jn_5 : Hid (OwnsQ rBytes 26 w5 base (fun q => base ≤ q ∧ q < hi) (.slice ua n uc) (s.1)) := hO.below bel
 have HOR : Hid (∀ k, (Value.slice ua n uc).ownBlock = some k → k < hi) := hOr
 have Us_5 : Hid (rSnps.rd w5 (fun q => hi ≤ q ∧ q < W.heap.size) [.slice va m vc] (s.2.1)) := Rep.below (rSnps.weaken hL (fun q hq hl => ⟨hq, hl⟩)) bel
 have B_5 : Hid (Below base W w5) := bel.mono (by omega)
 have HwK : Hid (x.1 = 3) := hw
 clear hS0 hN hL hV hO hOr hd hd0 hx i0 i1 i2 i3 i4 V1 V2 V3 V4 V5 b1 b2 b3 b4 b5 z1 z2 z3 z4 z5 bel hnx hok hE hlm hln hb hh hw hm8 hn6 hP
 go_enter Try.func34, Try.ntmps34
 go_wp2_with fail
 have SZ_5 : Hid (w5.heap.size ≤ w5.heap.size) := Nat.le_refl _
 go_loopw [7] (fun i wr => ∃ j : Nat, j ≤ m ∧ i = .int .i64 j ∧ Hid (∀ (i : Nat) (hi : i < s.2.1.length), i < j → s.2.1[i].1 ≠ x.2.2.2.1) ∧ Below w5.heap.size w5 wr) (fun i _ => m - (intOf i).toNat)
 case atStart => exact ⟨0, Nat.zero_le _, rfl, (fun i _ h => by omega), Below.refl _ _⟩
 case round =>
  obtain ⟨j, hj, rfl, HJ, belo⟩ := hrel
  obtain ⟨w6, hw6⟩ : ∃ v, v = wr := ⟨_, rfl⟩
  subst hw6
  have Rt_6 : Hid _ := Rt_5.out.below (belo)
  have Rx_6 : Hid _ := Rx_5.out.below (belo)
  have Rp_6 : Hid _ := Rp_5.out.below (belo)
  have Rq_6 : Hid _ := Rq_5.out.below (belo)
  have Rr_6 : Hid _ := Rr_5.out.below (belo)
  have Ds_6 : Hid (rSta.rd w6 (fun q => base ≤ q ∧ q < W.heap.size) [.slice ua n uc, .slice va m vc, .int .i64 next] (s)) := Rep.below Ds_5.out (belo)
  have Yd_6 : Hid (rBytes.rd w6 (fun q => q < base ∧ q < W.heap.size) [.slice xa xn xc] (x.2.2.2.2.2)) := Rep.below Yd_5.out (belo)
  have Jn_6 : Hid (OwnsQ rBytes 26 w6 base (fun q => base ≤ q ∧ q < hi) (.slice ua n uc) (s.1)) := Jn_5.out.below (belo)
  have Us_6 : Hid (rSnps.rd w6 (fun q => hi ≤ q ∧ q < W.heap.size) [.slice va m vc] (s.2.1)) := Rep.below Us_5.out (belo)
  have B_6 : Hid (Below base W w6) := B_5.out.trans ((belo).mono (by have h1 := B_5.out.size; have h7 := HZ.out; have h8 := HB.out; unfold Hid at h7 h8; have z5 := SZ_5.out; unfold Hid at z5; omega))
  have SZ_6 : Hid (w5.heap.size ≤ w6.heap.size) := Nat.le_trans SZ_5.out (belo).size
  clear Rt_5 Rx_5 Rp_5 Rq_5 Rr_5 Ds_5 Yd_5 Jn_5 Us_5
  have BL : Hid _ := belo
  clear belo
  have qt0 := Rt_6.out.cell (j := 0) rfl
  have qt1 := Rt_6.out.cell (j := 1) rfl
  have qt2 := Rt_6.out.cell (j := 2) rfl
  have qx0 := Rx_6.out.cell (j := 0) rfl
  have qx1 := Rx_6.out.cell (j := 1) rfl
  have qx2 := Rx_6.out.cell (j := 2) rfl
  have qx3 := Rx_6.out.cell (j := 3) rfl
  have qx4 := Rx_6.out.cell (j := 4) rfl
  have qx5 := Rx_6.out.cell (j := 5) rfl
  have hm8 : m ≤ 8 := HB.out.2.2.1
  have HIdb : Hid (I64 x.2.2.2.1) := HIx.out.2.2.2.1
  by_cases hjm : j < m
  · skip
    obtain ⟨-, HPs, -, hls, -⟩ := q1Z Ds_6.out
    have hjs : j < s.2.1.length := by rw [hls]; exact hjm
    have hjz : (j : Int) < (m : Int) := by omega
    obtain ⟨g2, off2, hva, -, -, hct⟩ := q1J HPs (by omega)
    rw [hva] at qt1
    obtain ⟨y, ym, yd, -, -, s0', -, -, -, -⟩ := hct j hjs
    obtain ⟨idj, hidj⟩ : ∃ z, z = s.2.1[j].1 := ⟨_, rfl⟩
    rw [← hidj] at s0'
    have HIj : Hid (idj = s.2.1[j].1) := hidj
    clear hct HPs hls hidj
    by_cases hid : idj = x.2.2.2.1
    · skip
      have e1 : (idj != x.2.2.2.1) = false := by rw [hid]; exact bne_self_eq_false _
      have HPl : Hid (Mo.place s.2.1 (Mo.idO x) = j) := by
       unfold Hid Mo.place
       rw [(List.findIdx_eq hjs).2 ⟨by show decide (s.2.1[j].1 = x.2.2.2.1) = true; rw [← HIj.out, hid]; simp, fun i hi => by show decide (s.2.1[i].1 = x.2.2.2.1) = false; exact decide_eq_false (HJ.out i (by omega) hi)⟩]
      have HFound : Hid (j < m) := hjm
      clear hid
      go_wp2_with fail
      go_quiet (fail)
      clear e1 hva
      clear qt0 qt1 qt2 qx0 qx1 qx2 qx3 qx4 qx5
      obtain ⟨w7, hw7⟩ : ∃ v, v = w6.drewN nq := ⟨_, rfl⟩
      have bdr : Below w6.heap.size w6 w7 := by rw [hw7]; exact below_drewN (Below.refl _ _) _
      rw [← hw7]
      clear hw7
      have Rt_7 : Hid _ := Rt_6.out.below (bdr)
      have Rx_7 : Hid _ := Rx_6.out.below (bdr)
      have Rp_7 : Hid _ := Rp_6.out.below (bdr)
      have Rq_7 : Hid _ := Rq_6.out.below (bdr)
      have Rr_7 : Hid _ := Rr_6.out.below (bdr)
      have Ds_7 : Hid (rSta.rd w7 (fun q => base ≤ q ∧ q < W.heap.size) [.slice ua n uc, .slice va m vc, .int .i64 next] (s)) := Rep.below Ds_6.out (bdr)
      have Yd_7 : Hid (rBytes.rd w7 (fun q => q < base ∧ q < W.heap.size) [.slice xa xn xc] (x.2.2.2.2.2)) := Rep.below Yd_6.out (bdr)
      have Jn_7 : Hid (OwnsQ rBytes 26 w7 base (fun q => base ≤ q ∧ q < hi) (.slice ua n uc) (s.1)) := Jn_6.out.below (bdr)
      have Us_7 : Hid (rSnps.rd w7 (fun q => hi ≤ q ∧ q < W.heap.size) [.slice va m vc] (s.2.1)) := Rep.below Us_6.out (bdr)
      have B_7 : Hid (Below base W w7) := B_6.out.trans ((bdr).mono (by have h1 := B_6.out.size; have h7 := HZ.out; have h8 := HB.out; unfold Hid at h7 h8; have z5 := SZ_5.out; unfold Hid at z5; have z6 := SZ_6.out; unfold Hid at z6; omega))
      have SZ_7 : Hid (w5.heap.size ≤ w7.heap.size) := Nat.le_trans SZ_6.out (bdr).size
      clear Rt_6 Rx_6 Rp_6 Rq_6 Rr_6 Ds_6 Yd_6 Jn_6 Us_6
      clear bdr
      have hto : Mo.touchE s.1.length x.2.1 x.2.2.1 = 0 := by
       have h := HE.out
       unfold Mo.opE Mo.mayE Mo.what at h
       rw [HwK.out] at h
       exact h
      obtain ⟨⟨f1, f2, f3, f4⟩, f5⟩ := Mo.touchE_zero hto
      obtain ⟨A, hA⟩ : ∃ A : Nat, x.2.1 = (A : Int) := ⟨x.2.1.toNat, by omega⟩
      obtain ⟨N, hN⟩ : ∃ N : Nat, x.2.2.1 = (N : Int) := ⟨x.2.2.1.toNat, by omega⟩
      have HAN : Hid (A + N ≤ n ∧ N ≤ 64) := by have h := HLn.out; unfold Hid at h ⊢; rw [h] at f3 f4; omega
      have HA : Hid (x.2.1 = (A : Int)) := hA
      have HN : Hid (x.2.2.1 = (N : Int)) := hN
      clear hto f1 f2 f3 f4 f5 hA hN
      have hk7 : x.1 = 3 := HwK.out
      have qt0 := Rt_7.out.cell (j := 0) rfl
      have qt1 := Rt_7.out.cell (j := 1) rfl
      have qt2 := Rt_7.out.cell (j := 2) rfl
      have qx0 := Rx_7.out.cell (j := 0) rfl
      have qx1 := Rx_7.out.cell (j := 1) rfl
      have qx2 := Rx_7.out.cell (j := 2) rfl
      have qx3 := Rx_7.out.cell (j := 3) rfl
      have qx4 := Rx_7.out.cell (j := 4) rfl
      have qx5 := Rx_7.out.cell (j := 5) rfl
      rw [hk7] at qx0
      clear hk7
      rw [HN.out] at qx2
      have hN64 : N ≤ 64 := HAN.out.2
      go_wp2_with fail
      go_loopw [9] (fun i wr => ∃ j : Nat, j ≤ N ∧ i = .int .i64 j ∧ Hid (OwnsQ rBytes 26 wr base (fun q => base ≤ q ∧ q < hi) (.slice ua n uc) (Mo.over s.1 A (List.replicate j []))) ∧ Hid (Kept (fun q => q < w7.heap.size ∧ some q ≠ (Value.slice ua n uc).ownBlock) w7 wr)) (fun i _ => N - (intOf i).toNat)
      case atStart => exact ⟨0, Nat.zero_le _, rfl, by rw [show List.replicate 0 ([] : Sec) = [] from rfl, qAx]; exact Jn_7.out, Kept.refl _ _⟩
      case round =>
       clear qt0 qt1 qt2 qx0 qx1 qx2 qx3 qx4 qx5
       obtain ⟨j, hj, rfl, HO, HK⟩ := hrel
       have Rtr : Hid (Row wr (W.heap.size) 25 [.slice ua n uc, .slice va m vc, .int .i64 next]) := Rt_7.out.keep (HK.out.block _ ⟨Rt_7.out.lt, fun e => by have h := HOR.out _ e.symm; have h7 := HZ.out; have h8 := HB.out; unfold Hid at h7 h8; have z5 := SZ_5.out; unfold Hid at z5; have z6 := SZ_6.out; unfold Hid at z6; have z7 := SZ_7.out; unfold Hid at z7; omega⟩)
       have qt0 := Rtr.out.cell (j := 0) rfl
       have qt1 := Rtr.out.cell (j := 1) rfl
       have qt2 := Rtr.out.cell (j := 2) rfl
       have Rxr : Hid (Row wr (w1.heap.size) 28 [.int .i64 x.1, .int .i64 x.2.1, .int .i64 x.2.2.1, .int .i64 x.2.2.2.1, .string x.2.2.2.2.1, .slice xa xn xc]) := Rx_7.out.keep (HK.out.block _ ⟨Rx_7.out.lt, fun e => by have h := HOR.out _ e.symm; have h7 := HZ.out; have h8 := HB.out; unfold Hid at h7 h8; have z5 := SZ_5.out; unfold Hid at z5; have z6 := SZ_6.out; unfold Hid at z6; have z7 := SZ_7.out; unfold Hid at z7; omega⟩)
       have qx0 := Rxr.out.cell (j := 0) rfl
       have qx1 := Rxr.out.cell (j := 1) rfl
       have qx2 := Rxr.out.cell (j := 2) rfl
       have qx3 := Rxr.out.cell (j := 3) rfl
       have qx4 := Rxr.out.cell (j := 4) rfl
       have qx5 := Rxr.out.cell (j := 5) rfl
       rw [HN.out] at qx2
       rw [HA.out] at qx1
       have hn6 : n ≤ 65536 := HB.out.2.2.2
       have hAN : A + N ≤ n := HAN.out.1
       by_cases hjn : j < N
       · skip
         have hjz : (j : Int) < (N : Int) := by omega
         have HLo : Hid ((Mo.over s.1 A (List.replicate j ([] : Sec))).length = n) := by unfold Hid; rw [Mo.over_len (by rw [List.length_replicate, HLn.out]; omega)]; exact HLn.out
         obtain ⟨g, cs, rfl, hob, hR, hcs⟩ := OwnsQ.row1 rfl HO.out HLo.out (by omega)
         obtain ⟨c0, hc0⟩ : ∃ c, cs[A + j]? = some c := ⟨_, List.getElem?_eq_getElem (by omega)⟩
         have d0 := hR.cell (j := A + j) hc0
         have d1 := hR.frozen (A + j)
         have HOb : Hid _ := hob
         have HO2 : Hid (OwnsQ rBytes 26 (wr.setCell ⟨g, A + j, none⟩ (.slice none 0 0)) base (fun q => base ≤ q ∧ q < hi) (.slice (some ⟨g, 0, none⟩) n uc) (Mo.over s.1 A (List.replicate (j + 1) []))) := by
          have h := OwnsQ.set1 rfl HO.out HLo.out (j := A + j) (by omega) (u := .slice none 0 0) (x := []) (q0j _ _ _ _ (fun _ => rfl))
          have h2 := qAQ (d := s.1) (a := A) (p := List.replicate j ([] : Sec)) (by rw [List.length_replicate, HLn.out]; omega) []
          rw [List.length_replicate] at h2
          rw [h2] at h
          rw [List.replicate_succ']
          exact h
         have HK2 : Hid (Kept (fun q => q < w7.heap.size ∧ some q ≠ (Value.slice (some ⟨g, 0, none⟩) n uc).ownBlock) w7 (wr.setCell ⟨g, A + j, none⟩ (.slice none 0 0))) := HK.out.setCell (p := ⟨g, A + j, none⟩) (fun h => h.2 HOb.out.symm) _
         clear hR hcs hc0 hob
         go_wp2
         go_roundw
         case rel => exact ⟨j + 1, by omega, by go_num, HO2, HK2⟩
         case measure => simp [intOf]; omega
       · obtain rfl : N = j := by omega
         have hjz : ¬ (N : Int) < (N : Int) := by omega
         clear hAN hn6
         obtain ⟨w8, hw8⟩ : ∃ v, v = wr := ⟨_, rfl⟩
         subst hw8
         have Rt_8 : Hid (Row w8 (W.heap.size) 25 [.slice ua n uc, .slice va m vc, .int .i64 next]) := Rt_7.out.keep (HK.out.block _ ⟨Rt_7.out.lt, fun e => by have h := HOR.out _ e.symm; have h7 := HZ.out; have h8 := HB.out; unfold Hid at h7 h8; have z5 := SZ_5.out; unfold Hid at z5; have z6 := SZ_6.out; unfold Hid at z6; have z7 := SZ_7.out; unfold Hid at z7; omega⟩)
         have Rx_8 : Hid (Row w8 (w1.heap.size) 28 [.int .i64 x.1, .int .i64 x.2.1, .int .i64 x.2.2.1, .int .i64 x.2.2.2.1, .string x.2.2.2.2.1, .slice xa xn xc]) := Rx_7.out.keep (HK.out.block _ ⟨Rx_7.out.lt, fun e => by have h := HOR.out _ e.symm; have h7 := HZ.out; have h8 := HB.out; unfold Hid at h7 h8; have z5 := SZ_5.out; unfold Hid at z5; have z6 := SZ_6.out; unfold Hid at z6; have z7 := SZ_7.out; unfold Hid at z7; omega⟩)
         have Rp_8 : Hid (Row w8 (w2.heap.size) 25 [.slice none 0 0, .slice none 0 0, .int .i64 0]) := Rp_7.out.keep (HK.out.block _ ⟨Rp_7.out.lt, fun e => by have h := HOR.out _ e.symm; have h7 := HZ.out; have h8 := HB.out; unfold Hid at h7 h8; have z5 := SZ_5.out; unfold Hid at z5; have z6 := SZ_6.out; unfold Hid at z6; have z7 := SZ_7.out; unfold Hid at z7; omega⟩)
         have Rq_8 : Hid (Row w8 (w3.heap.size) 43 [.int .i64 0, .slice none 0 0, .int .i64 0, .slice none 0 0, .int .i64 0]) := Rq_7.out.keep (HK.out.block _ ⟨Rq_7.out.lt, fun e => by have h := HOR.out _ e.symm; have h7 := HZ.out; have h8 := HB.out; unfold Hid at h7 h8; have z5 := SZ_5.out; unfold Hid at z5; have z6 := SZ_6.out; unfold Hid at z6; have z7 := SZ_7.out; unfold Hid at z7; omega⟩)
         have Rr_8 : Hid (Row w8 (w4.heap.size) 43 [.int .i64 0, .slice none 0 0, .int .i64 0, .slice none 0 0, .int .i64 0]) := Rr_7.out.keep (HK.out.block _ ⟨Rr_7.out.lt, fun e => by have h := HOR.out _ e.symm; have h7 := HZ.out; have h8 := HB.out; unfold Hid at h7 h8; have z5 := SZ_5.out; unfold Hid at z5; have z6 := SZ_6.out; unfold Hid at z6; have z7 := SZ_7.out; unfold Hid at z7; omega⟩)
         have Jn_8 : Hid (OwnsQ rBytes 26 w8 base (fun q => base ≤ q ∧ q < hi) (.slice ua n uc) (Mo.over s.1 A (List.replicate N []))) := HO.out
         have Us_8 : Hid (rSnps.rd w8 (fun q => hi ≤ q ∧ q < W.heap.size) [.slice va m vc] (s.2.1)) := Rep.kept Us_7.out HK.out (fun q hq hl => ⟨hl, fun e => by have h := HOR.out _ e.symm; have h1 := hq.1; omega⟩)
         have B_8 : Hid (Below base W w8) := Kept.toBelow ((Kept.below B_7.out).trans (HK.out.mono (fun q hq => by have hq2 : q < base := hq; have h1 := B_7.out.size; have h7 := HZ.out; have h8 := HB.out; unfold Hid at h7 h8; have z5 := SZ_5.out; unfold Hid at z5; have z6 := SZ_6.out; unfold Hid at z6; have z7 := SZ_7.out; unfold Hid at z7; exact ⟨by omega, fun e => by have h := (Jn_7.out.row _ e.symm).1; omega⟩)))
         have SZ_8 : Hid (w5.heap.size ≤ w8.heap.size) := Nat.le_trans SZ_7.out HK.out.size
         clear HK HO Rt_7 Rx_7 Rp_7 Rq_7 Rr_7 Ds_7 Yd_7 Jn_7 Us_7
         have Dz_8 : Hid (rSta.rd w8 (fun q => base ≤ q ∧ q < W.heap.size) [.slice ua n uc, .slice va m vc, .int .i64 next] ((Mo.over s.1 A (List.replicate N []), s.2.1, s.2.2))) := by
          have h1 := OwnsQ.rdQ (hs := by decide) Jn_8.out (by rw [Mo.over_len (by rw [List.length_replicate, HLn.out]; exact HAN.out.1)]; exact HLn.out) (by have h := HB.out.2.2.2; show n * 24 ≤ _; omega) (fun k hk => ⟨(Jn_8.out.row k hk).1, HOR.out k hk⟩)
          have hT : next = s.2.2 := HNx.out.symm
          unfold Hid
          rw [hT]
          exact q2Q (s := (Mo.over s.1 A (List.replicate N []), s.2.1, s.2.2)) (rSectors.weaken h1 (fun q hq _ => by have h7 := HZ.out; have h8 := HB.out; unfold Hid at h7 h8; have z5 := SZ_5.out; unfold Hid at z5; have z6 := SZ_6.out; unfold Hid at z6; have z7 := SZ_7.out; unfold Hid at z7; have z8 := SZ_8.out; unfold Hid at z8; have h1 := hq.1; have h2 := hq.2; exact ⟨by omega, by omega⟩)) (rSnps.weaken Us_8.out (fun q hq _ => by have h7 := HZ.out; have h8 := HB.out; unfold Hid at h7 h8; have z5 := SZ_5.out; unfold Hid at z5; have z6 := SZ_6.out; unfold Hid at z6; have z7 := SZ_7.out; unfold Hid at z7; have z8 := SZ_8.out; unfold Hid at z8; have h1 := hq.1; have h2 := hq.2; exact ⟨by omega, by omega⟩)) (by rw [← hT]; exact HI.out.1)
         have HcS : Hid (Mo.chgS s x = (Mo.over s.1 A (List.replicate N []), s.2.1, s.2.2)) := by unfold Hid Mo.chgS Mo.what; rw [HwK.out]; show (Mo.over s.1 x.2.1.toNat (List.replicate x.2.2.1.toNat []), s.2.1, s.2.2) = _; rw [HA.out, HN.out]; rfl
         have HcD : Hid (Mo.chgD s x = []) := by unfold Hid Mo.chgD Mo.what; rw [HwK.out]; rfl
         have HcL : Hid (Mo.chgL s x = []) := by unfold Hid Mo.chgL Mo.what; rw [HwK.out]; rfl
         have HcI : Hid (Mo.chgI s x = 0) := by unfold Hid Mo.chgI Mo.what; rw [HwK.out]; rfl
         have HSeeT : Hid (∀ w', Kept (fun q => q ≠ w2.heap.size ∧ q ≠ w3.heap.size) w8 w' → w'.cell? ⟨W.heap.size, 0, none⟩ = some (.slice ua n uc) ∧ w'.cell? ⟨W.heap.size, 1, none⟩ = some (.slice va m vc) ∧ w'.cell? ⟨W.heap.size, 2, none⟩ = some (.int .i64 next) ∧ w'.cell? ⟨w4.heap.size, 0, none⟩ = some (.int .i64 0) ∧ w'.cell? ⟨w4.heap.size, 1, none⟩ = some (.slice none 0 0) ∧ w'.cell? ⟨w4.heap.size, 2, none⟩ = some (.int .i64 0) ∧ w'.cell? ⟨w4.heap.size, 3, none⟩ = some (.slice none 0 0) ∧ w'.cell? ⟨w4.heap.size, 4, none⟩ = some (.int .i64 0)) := fun w' hk => ⟨hk.cell (p := ⟨W.heap.size, 0, none⟩) (by have h7 := HZ.out; have h8 := HB.out; unfold Hid at h7 h8; have z5 := SZ_5.out; unfold Hid at z5; have z6 := SZ_6.out; unfold Hid at z6; have z7 := SZ_7.out; unfold Hid at z7; have z8 := SZ_8.out; unfold Hid at z8; exact ⟨by show W.heap.size ≠ w2.heap.size; omega, by show W.heap.size ≠ w3.heap.size; omega⟩) (Rt_8.out.cell (j := 0) rfl), hk.cell (p := ⟨W.heap.size, 1, none⟩) (by have h7 := HZ.out; have h8 := HB.out; unfold Hid at h7 h8; have z5 := SZ_5.out; unfold Hid at z5; have z6 := SZ_6.out; unfold Hid at z6; have z7 := SZ_7.out; unfold Hid at z7; have z8 := SZ_8.out; unfold Hid at z8; exact ⟨by show W.heap.size ≠ w2.heap.size; omega, by show W.heap.size ≠ w3.heap.size; omega⟩) (Rt_8.out.cell (j := 1) rfl), hk.cell (p := ⟨W.heap.size, 2, none⟩) (by have h7 := HZ.out; have h8 := HB.out; unfold Hid at h7 h8; have z5 := SZ_5.out; unfold Hid at z5; have z6 := SZ_6.out; unfold Hid at z6; have z7 := SZ_7.out; unfold Hid at z7; have z8 := SZ_8.out; unfold Hid at z8; exact ⟨by show W.heap.size ≠ w2.heap.size; omega, by show W.heap.size ≠ w3.heap.size; omega⟩) (Rt_8.out.cell (j := 2) rfl), hk.cell (p := ⟨w4.heap.size, 0, none⟩) (by have h7 := HZ.out; have h8 := HB.out; unfold Hid at h7 h8; have z5 := SZ_5.out; unfold Hid at z5; have z6 := SZ_6.out; unfold Hid at z6; have z7 := SZ_7.out; unfold Hid at z7; have z8 := SZ_8.out; unfold Hid at z8; exact ⟨by show w4.heap.size ≠ w2.heap.size; omega, by show w4.heap.size ≠ w3.heap.size; omega⟩) (Rr_8.out.cell (j := 0) rfl), hk.cell (p := ⟨w4.heap.size, 1, none⟩) (by have h7 := HZ.out; have h8 := HB.out; unfold Hid at h7 h8; have z5 := SZ_5.out; unfold Hid at z5; have z6 := SZ_6.out; unfold Hid at z6; have z7 := SZ_7.out; unfold Hid at z7; have z8 := SZ_8.out; unfold Hid at z8; exact ⟨by show w4.heap.size ≠ w2.heap.size; omega, by show w4.heap.size ≠ w3.heap.size; omega⟩) (Rr_8.out.cell (j := 1) rfl), hk.cell (p := ⟨w4.heap.size, 2, none⟩) (by have h7 := HZ.out; have h8 := HB.out; unfold Hid at h7 h8; have z5 := SZ_5.out; unfold Hid at z5; have z6 := SZ_6.out; unfold Hid at z6; have z7 := SZ_7.out; unfold Hid at z7; have z8 := SZ_8.out; unfold Hid at z8; exact ⟨by show w4.heap.size ≠ w2.heap.size; omega, by show w4.heap.size ≠ w3.heap.size; omega⟩) (Rr_8.out.cell (j := 2) rfl), hk.cell (p := ⟨w4.heap.size, 3, none⟩) (by have h7 := HZ.out; have h8 := HB.out; unfold Hid at h7 h8; have z5 := SZ_5.out; unfold Hid at z5; have z6 := SZ_6.out; unfold Hid at z6; have z7 := SZ_7.out; unfold Hid at z7; have z8 := SZ_8.out; unfold Hid at z8; exact ⟨by show w4.heap.size ≠ w2.heap.size; omega, by show w4.heap.size ≠ w3.heap.size; omega⟩) (Rr_8.out.cell (j := 3) rfl), hk.cell (p := ⟨w4.heap.size, 4, none⟩) (by have h7 := HZ.out; have h8 := HB.out; unfold Hid at h7 h8; have z5 := SZ_5.out; unfold Hid at z5; have z6 := SZ_6.out; unfold Hid at z6; have z7 := SZ_7.out; unfold Hid at z7; have z8 := SZ_8.out; unfold Hid at z8; exact ⟨by show w4.heap.size ≠ w2.heap.size; omega, by show w4.heap.size ≠ w3.heap.size; omega⟩) (Rr_8.out.cell (j := 4) rfl)⟩
         have S0 := HSeeT.out _ (Kept.refl _ w8).drew
         go_wp2_with fail
         refine wp_region_held_drew (S := (fun w' : World => w'.cell? ⟨W.heap.size, 0, none⟩ = some (.slice ua n uc) ∧ w'.cell? ⟨W.heap.size, 1, none⟩ = some (.slice va m vc) ∧ w'.cell? ⟨W.heap.size, 2, none⟩ = some (.int .i64 next) ∧ w'.cell? ⟨w4.heap.size, 0, none⟩ = some (.int .i64 0) ∧ w'.cell? ⟨w4.heap.size, 1, none⟩ = some (.slice none 0 0) ∧ w'.cell? ⟨w4.heap.size, 2, none⟩ = some (.int .i64 0) ∧ w'.cell? ⟨w4.heap.size, 3, none⟩ = some (.slice none 0 0) ∧ w'.cell? ⟨w4.heap.size, 4, none⟩ = some (.int .i64 0))) (by kernel_rfl) (S0) (fun hH => ?_)
         refine tkM 0 _ rfl rfl ?_; simp only [sz, ss]
         refine tkM 1 _ rfl rfl ?_; simp only [sz, ss]
         refine r1L 2 rfl fun K hK => ?_
         · have PA : Hid (Row w8 (w2.heap.size) 25 [.slice none 0 0, .slice none 0 0, .int .i64 0]) := Rp_8.out
           have sA0 := PA.out.cell (j := 0) rfl
           have uA0 := PA.out.frozen 0
           have sA1 := PA.out.cell (j := 1) rfl
           have uA1 := PA.out.frozen 1
           have sA2 := PA.out.cell (j := 2) rfl
           have uA2 := PA.out.frozen 2
           obtain ⟨wPA, hwPA, VPA, KPA⟩ := PA.out.whole3 (.slice ua n uc) (.slice va m vc) (.int .i64 next)
           have HVPA : Hid _ := VPA
           have KKA : Hid (Kept (fun q => q ≠ w2.heap.size ∧ q ≠ w3.heap.size) w8 wPA) := KPA.mono (fun q hq => hq.1)
           have SPA := HSeeT.out _ KKA.out.drew
           clear VPA
           go_simp
           refine hK.out _ _ ?_ (fun hH => ?_)
           · try dsimp only
             first | exact SPA | exact SPB | exact S0
           clear hK K
           refine r1L 3 rfl fun K hK => ?_
           · have PB : Hid (Row wPA (w3.heap.size) 43 [.int .i64 0, .slice none 0 0, .int .i64 0, .slice none 0 0, .int .i64 0]) := Rq_8.out.keep (KPA.block _ (by have h7 := HZ.out; have h8 := HB.out; unfold Hid at h7 h8; have z5 := SZ_5.out; unfold Hid at z5; have z6 := SZ_6.out; unfold Hid at z6; have z7 := SZ_7.out; unfold Hid at z7; have z8 := SZ_8.out; unfold Hid at z8; show w3.heap.size ≠ w2.heap.size; omega))
             have sB0 := PB.out.cell (j := 0) rfl
             have uB0 := PB.out.frozen 0
             have sB1 := PB.out.cell (j := 1) rfl
             have uB1 := PB.out.frozen 1
             have sB2 := PB.out.cell (j := 2) rfl
             have uB2 := PB.out.frozen 2
             have sB3 := PB.out.cell (j := 3) rfl
             have uB3 := PB.out.frozen 3
             have sB4 := PB.out.cell (j := 4) rfl
             have uB4 := PB.out.frozen 4
             obtain ⟨wPB, hwPB, VPB, KPB⟩ := PB.out.whole5 (.int .i64 0) (.slice none 0 0) (.int .i64 0) (.slice none 0 0) (.int .i64 0)
             have HVPB : Hid _ := VPB
             have KKB : Hid (Kept (fun q => q ≠ w2.heap.size ∧ q ≠ w3.heap.size) w8 wPB) := KKA.out.trans (KPB.mono (fun q hq => hq.2))
             have SPB := HSeeT.out _ KKB.out.drew
             clear VPB
             go_simp
             refine hK.out _ _ ?_ (fun hH => ?_)
             · try dsimp only
               exact SPB
             clear hK K
             refine wpAnyH_done (by kernel_rfl) ?_ _
             have VA9 : Hid (Row wPB.drew (w2.heap.size) 25 [.slice ua n uc, .slice va m vc, .int .i64 next]) := (HVPA.out.keep (KPB.block _ (by have h7 := HZ.out; have h8 := HB.out; unfold Hid at h7 h8; have z5 := SZ_5.out; unfold Hid at z5; have z6 := SZ_6.out; unfold Hid at z6; have z7 := SZ_7.out; unfold Hid at z7; have z8 := SZ_8.out; unfold Hid at z8; show w2.heap.size ≠ w3.heap.size; omega))).keep rfl
             have VB9 : Hid (Row wPB.drew _ _ _) := HVPB.out.keep rfl
             clear hH SPA SPB S0
             go_wp2
             refine bodyPost_ret (q0x rfl rfl rfl VA9.out VB9.out Try.underlying25 rfl (by kernel_rfl) Try.underlying43 rfl (by kernel_rfl)) rfl ⟨_, _, _, _, _, _, _, _, _, _, _, _, _, by rw [HcI.out], ?_, ?_, ?_, ?_⟩
             · rw [HcS.out]; exact rSta.weaken (Rep.kept Dz_8.out KKB.out.drew (fun q hq hl => by have h7 := HZ.out; have h8 := HB.out; unfold Hid at h7 h8; have z5 := SZ_5.out; unfold Hid at z5; have z6 := SZ_6.out; unfold Hid at z6; have z7 := SZ_7.out; unfold Hid at z7; have z8 := SZ_8.out; unfold Hid at z8; have h1 := hq.1; have h2 := hq.2; exact ⟨by show q ≠ _; omega, by show q ≠ _; omega⟩)) (fun q hq hl => by have h7 := HZ.out; have h8 := HB.out; unfold Hid at h7 h8; have z5 := SZ_5.out; unfold Hid at z5; have z6 := SZ_6.out; unfold Hid at z6; have z7 := SZ_7.out; unfold Hid at z7; have z8 := SZ_8.out; unfold Hid at z8; have h1 := hq.1; show base ≤ q; omega)
             · rw [HcD.out]; exact q0j _ _ _ _ (fun _ => rfl)
             · rw [HcL.out]; exact q0Z _ _
             · exact Kept.toBelow ((Kept.below B_8.out).trans (KKB.out.drew.mono (fun q hq => by have h7 := HZ.out; have h8 := HB.out; unfold Hid at h7 h8; have z5 := SZ_5.out; unfold Hid at z5; have z6 := SZ_6.out; unfold Hid at z6; have z7 := SZ_7.out; unfold Hid at z7; have z8 := SZ_8.out; unfold Hid at z8; have h1 : q < base := hq; exact ⟨by show q ≠ _; omega, by show q ≠ _; omega⟩)))
    · skip
      have e1 : (idj != x.2.2.2.1) = true := bne_iff_ne.2 hid
      have HJ2 : Hid (∀ (i : Nat) (hi : i < s.2.1.length), i < j + 1 → s.2.1[i].1 ≠ x.2.2.2.1) := fun i hi h => by
       by_cases hij : i = j
       · subst hij; rw [← HIj.out]; exact hid
       · exact HJ.out i hi (by omega)
      clear hva
      go_wp2_with fail
      go_quiet (fail)
      go_wp2
      go_roundw
      case rel => exact ⟨j + 1, by omega, by go_num, HJ2, below_drewN BL.out _⟩
      case measure => simp [intOf]; omega
  · obtain rfl : m = j := by omega
    have hjz : ¬ (m : Int) < (m : Int) := by omega
    have HNone : Hid (∀ y ∈ s.2.1, y.1 ≠ x.2.2.2.1) := fun y hy => by obtain ⟨i, hi, rfl⟩ := List.mem_iff_getElem.1 hy; exact HJ.out i hi (by rw [← HLm.out]; exact hi)
    go_wp2_with fail
    go_quiet (fail)
    clear qt0 qt1 qt2 qx0 qx1 qx2 qx3 qx4 qx5
    obtain ⟨w9, hw9⟩ : ∃ v, v = w6.drewN nq := ⟨_, rfl⟩
    have bdr : Below w6.heap.size w6 w9 := by rw [hw9]; exact below_drewN (Below.refl _ _) _
    rw [← hw9]
    clear hw9
    have Rt_9 : Hid _ := Rt_6.out.below (bdr)
    have Rx_9 : Hid _ := Rx_6.out.below (bdr)
    have Rp_9 : Hid _ := Rp_6.out.below (bdr)
    have Rq_9 : Hid _ := Rq_6.out.below (bdr)
    have Rr_9 : Hid _ := Rr_6.out.below (bdr)
    have Ds_9 : Hid (rSta.rd w9 (fun q => base ≤ q ∧ q < W.heap.size) [.slice ua n uc, .slice va m vc, .int .i64 next] (s)) := Rep.below Ds_6.out (bdr)
    have Yd_9 : Hid (rBytes.rd w9 (fun q => q < base ∧ q < W.heap.size) [.slice xa xn xc] (x.2.2.2.2.2)) := Rep.below Yd_6.out (bdr)
    have Jn_9 : Hid (OwnsQ rBytes 26 w9 base (fun q => base ≤ q ∧ q < hi) (.slice ua n uc) (s.1)) := Jn_6.out.below (bdr)
    have Us_9 : Hid (rSnps.rd w9 (fun q => hi ≤ q ∧ q < W.heap.size) [.slice va m vc] (s.2.1)) := Rep.below Us_6.out (bdr)
    have B_9 : Hid (Below base W w9) := B_6.out.trans ((bdr).mono (by have h1 := B_6.out.size; have h7 := HZ.out; have h8 := HB.out; unfold Hid at h7 h8; have z5 := SZ_5.out; unfold Hid at z5; have z6 := SZ_6.out; unfold Hid at z6; omega))
    have SZ_9 : Hid (w5.heap.size ≤ w9.heap.size) := Nat.le_trans SZ_6.out (bdr).size
    clear Rt_6 Rx_6 Rp_6 Rq_6 Rr_6 Ds_6 Yd_6 Jn_6 Us_6
    clear bdr
    have hto : Mo.touchE s.1.length x.2.1 x.2.2.1 = 0 := by
     have h := HE.out
     unfold Mo.opE Mo.mayE Mo.what at h
     rw [HwK.out] at h
     exact h
    obtain ⟨⟨f1, f2, f3, f4⟩, f5⟩ := Mo.touchE_zero hto
    obtain ⟨A, hA⟩ : ∃ A : Nat, x.2.1 = (A : Int) := ⟨x.2.1.toNat, by omega⟩
    obtain ⟨N, hN⟩ : ∃ N : Nat, x.2.2.1 = (N : Int) := ⟨x.2.2.1.toNat, by omega⟩
    have HAN : Hid (A + N ≤ n ∧ N ≤ 64) := by have h := HLn.out; unfold Hid at h ⊢; rw [h] at f3 f4; omega
    have HA : Hid (x.2.1 = (A : Int)) := hA
    have HN : Hid (x.2.2.1 = (N : Int)) := hN
    clear hto f1 f2 f3 f4 f5 hA hN
    have hk7 : x.1 = 3 := HwK.out
    have qt0 := Rt_9.out.cell (j := 0) rfl
    have qt1 := Rt_9.out.cell (j := 1) rfl
    have qt2 := Rt_9.out.cell (j := 2) rfl
    have qx0 := Rx_9.out.cell (j := 0) rfl
    have qx1 := Rx_9.out.cell (j := 1) rfl
    have qx2 := Rx_9.out.cell (j := 2) rfl
    have qx3 := Rx_9.out.cell (j := 3) rfl
    have qx4 := Rx_9.out.cell (j := 4) rfl
    have qx5 := Rx_9.out.cell (j := 5) rfl
    rw [hk7] at qx0
    clear hk7
    rw [HN.out] at qx2
    have hN64 : N ≤ 64 := HAN.out.2
    go_wp2_with fail
    go_loopw [9] (fun i wr => ∃ j : Nat, j ≤ N ∧ i = .int .i64 j ∧ Hid (OwnsQ rBytes 26 wr base (fun q => base ≤ q ∧ q < hi) (.slice ua n uc) (Mo.over s.1 A (List.replicate j []))) ∧ Hid (Kept (fun q => q < w9.heap.size ∧ some q ≠ (Value.slice ua n uc).ownBlock) w9 wr)) (fun i _ => N - (intOf i).toNat)
    case atStart => exact ⟨0, Nat.zero_le _, rfl, by rw [show List.replicate 0 ([] : Sec) = [] from rfl, qAx]; exact Jn_9.out, Kept.refl _ _⟩
    case round =>
     clear qt0 qt1 qt2 qx0 qx1 qx2 qx3 qx4 qx5
     obtain ⟨j, hj, rfl, HO, HK⟩ := hrel
     have Rtr : Hid (Row wr (W.heap.size) 25 [.slice ua n uc, .slice va m vc, .int .i64 next]) := Rt_9.out.keep (HK.out.block _ ⟨Rt_9.out.lt, fun e => by have h := HOR.out _ e.symm; have h7 := HZ.out; have h8 := HB.out; unfold Hid at h7 h8; have z5 := SZ_5.out; unfold Hid at z5; have z6 := SZ_6.out; unfold Hid at z6; have z9 := SZ_9.out; unfold Hid at z9; omega⟩)
     have qt0 := Rtr.out.cell (j := 0) rfl
     have qt1 := Rtr.out.cell (j := 1) rfl
     have qt2 := Rtr.out.cell (j := 2) rfl
     have Rxr : Hid (Row wr (w1.heap.size) 28 [.int .i64 x.1, .int .i64 x.2.1, .int .i64 x.2.2.1, .int .i64 x.2.2.2.1, .string x.2.2.2.2.1, .slice xa xn xc]) := Rx_9.out.keep (HK.out.block _ ⟨Rx_9.out.lt, fun e => by have h := HOR.out _ e.symm; have h7 := HZ.out; have h8 := HB.out; unfold Hid at h7 h8; have z5 := SZ_5.out; unfold Hid at z5; have z6 := SZ_6.out; unfold Hid at z6; have z9 := SZ_9.out; unfold Hid at z9; omega⟩)
     have qx0 := Rxr.out.cell (j := 0) rfl
     have qx1 := Rxr.out.cell (j := 1) rfl
     have qx2 := Rxr.out.cell (j := 2) rfl
     have qx3 := Rxr.out.cell (j := 3) rfl
     have qx4 := Rxr.out.cell (j := 4) rfl
     have qx5 := Rxr.out.cell (j := 5) rfl
     rw [HN.out] at qx2
     rw [HA.out] at qx1
     have hn6 : n ≤ 65536 := HB.out.2.2.2
     have hAN : A + N ≤ n := HAN.out.1
     by_cases hjn : j < N
     · skip
       have hjz : (j : Int) < (N : Int) := by omega
       have HLo : Hid ((Mo.over s.1 A (List.replicate j ([] : Sec))).length = n) := by unfold Hid; rw [Mo.over_len (by rw [List.length_replicate, HLn.out]; omega)]; exact HLn.out
       obtain ⟨g, cs, rfl, hob, hR, hcs⟩ := OwnsQ.row1 rfl HO.out HLo.out (by omega)
       obtain ⟨c0, hc0⟩ : ∃ c, cs[A + j]? = some c := ⟨_, List.getElem?_eq_getElem (by omega)⟩
       have d0 := hR.cell (j := A + j) hc0
       have d1 := hR.frozen (A + j)
       have HOb : Hid _ := hob
       have HO2 : Hid (OwnsQ rBytes 26 (wr.setCell ⟨g, A + j, none⟩ (.slice none 0 0)) base (fun q => base ≤ q ∧ q < hi) (.slice (some ⟨g, 0, none⟩) n uc) (Mo.over s.1 A (List.replicate (j + 1) []))) := by
        have h := OwnsQ.set1 rfl HO.out HLo.out (j := A + j) (by omega) (u := .slice none 0 0) (x := []) (q0j _ _ _ _ (fun _ => rfl))
        have h2 := qAQ (d := s.1) (a := A) (p := List.replicate j ([] : Sec)) (by rw [List.length_replicate, HLn.out]; omega) []
        rw [List.length_replicate] at h2
        rw [h2] at h
        rw [List.replicate_succ']
        exact h
       have HK2 : Hid (Kept (fun q => q < w9.heap.size ∧ some q ≠ (Value.slice (some ⟨g, 0, none⟩) n uc).ownBlock) w9 (wr.setCell ⟨g, A + j, none⟩ (.slice none 0 0))) := HK.out.setCell (p := ⟨g, A + j, none⟩) (fun h => h.2 HOb.out.symm) _
       clear hR hcs hc0 hob
       go_wp2
       go_roundw
       case rel => exact ⟨j + 1, by omega, by go_num, HO2, HK2⟩
       case measure => simp [intOf]; omega
     · obtain rfl : N = j := by omega
       have hjz : ¬ (N : Int) < (N : Int) := by omega
       clear hAN hn6
       obtain ⟨w10, hw10⟩ : ∃ v, v = wr := ⟨_, rfl⟩
       subst hw10
       have Rt_10 : Hid (Row w10 (W.heap.size) 25 [.slice ua n uc, .slice va m vc, .int .i64 next]) := Rt_9.out.keep (HK.out.block _ ⟨Rt_9.out.lt, fun e => by have h := HOR.out _ e.symm; have h7 := HZ.out; have h8 := HB.out; unfold Hid at h7 h8; have z5 := SZ_5.out; unfold Hid at z5; have z6 := SZ_6.out; unfold Hid at z6; have z9 := SZ_9.out; unfold Hid at z9; omega⟩)
       have Rx_10 : Hid (Row w10 (w1.heap.size) 28 [.int .i64 x.1, .int .i64 x.2.1, .int .i64 x.2.2.1, .int .i64 x.2.2.2.1, .string x.2.2.2.2.1, .slice xa xn xc]) := Rx_9.out.keep (HK.out.block _ ⟨Rx_9.out.lt, fun e => by have h := HOR.out _ e.symm; have h7 := HZ.out; have h8 := HB.out; unfold Hid at h7 h8; have z5 := SZ_5.out; unfold Hid at z5; have z6 := SZ_6.out; unfold Hid at z6; have z9 := SZ_9.out; unfold Hid at z9; omega⟩)
       have Rp_10 : Hid (Row w10 (w2.heap.size) 25 [.slice none 0 0, .slice none 0 0, .int .i64 0]) := Rp_9.out.keep (HK.out.block _ ⟨Rp_9.out.lt, fun e => by have h := HOR.out _ e.symm; have h7 := HZ.out; have h8 := HB.out; unfold Hid at h7 h8; have z5 := SZ_5.out; unfold Hid at z5; have z6 := SZ_6.out; unfold Hid at z6; have z9 := SZ_9.out; unfold Hid at z9; omega⟩)
       have Rq_10 : Hid (Row w10 (w3.heap.size) 43 [.int .i64 0, .slice none 0 0, .int .i64 0, .slice none 0 0, .int .i64 0]) := Rq_9.out.keep (HK.out.block _ ⟨Rq_9.out.lt, fun e => by have h := HOR.out _ e.symm; have h7 := HZ.out; have h8 := HB.out; unfold Hid at h7 h8; have z5 := SZ_5.out; unfold Hid at z5; have z6 := SZ_6.out; unfold Hid at z6; have z9 := SZ_9.out; unfold Hid at z9; omega⟩)
       have Rr_10 : Hid (Row w10 (w4.heap.size) 43 [.int .i64 0, .slice none 0 0, .int .i64 0, .slice none 0 0, .int .i64 0]) := Rr_9.out.keep (HK.out.block _ ⟨Rr_9.out.lt, fun e => by have h := HOR.out _ e.symm; have h7 := HZ.out; have h8 := HB.out; unfold Hid at h7 h8; have z5 := SZ_5.out; unfold Hid at z5; have z6 := SZ_6.out; unfold Hid at z6; have z9 := SZ_9.out; unfold Hid at z9; omega⟩)
       have Jn_10 : Hid (OwnsQ rBytes 26 w10 base (fun q => base ≤ q ∧ q < hi) (.slice ua n uc) (Mo.over s.1 A (List.replicate N []))) := HO.out
       have Us_10 : Hid (rSnps.rd w10 (fun q => hi ≤ q ∧ q < W.heap.size) [.slice va m vc] (s.2.1)) := Rep.kept Us_9.out HK.out (fun q hq hl => ⟨hl, fun e => by have h := HOR.out _ e.symm; have h1 := hq.1; omega⟩)
       have B_10 : Hid (Below base W w10) := Kept.toBelow ((Kept.below B_9.out).trans (HK.out.mono (fun q hq => by have hq2 : q < base := hq; have h1 := B_9.out.size; have h7 := HZ.out; have h8 := HB.out; unfold Hid at h7 h8; have z5 := SZ_5.out; unfold Hid at z5; have z6 := SZ_6.out; unfold Hid at z6; have z9 := SZ_9.out; unfold Hid at z9; exact ⟨by omega, fun e => by have h := (Jn_9.out.row _ e.symm).1; omega⟩)))
       have SZ_10 : Hid (w5.heap.size ≤ w10.heap.size) := Nat.le_trans SZ_9.out HK.out.size
       clear HK HO Rt_9 Rx_9 Rp_9 Rq_9 Rr_9 Ds_9 Yd_9 Jn_9 Us_9
       have Dz_10 : Hid (rSta.rd w10 (fun q => base ≤ q ∧ q < W.heap.size) [.slice ua n uc, .slice va m vc, .int .i64 next] ((Mo.over s.1 A (List.replicate N []), s.2.1, s.2.2))) := by
        have h1 := OwnsQ.rdQ (hs := by decide) Jn_10.out (by rw [Mo.over_len (by rw [List.length_replicate, HLn.out]; exact HAN.out.1)]; exact HLn.out) (by have h := HB.out.2.2.2; show n * 24 ≤ _; omega) (fun k hk => ⟨(Jn_10.out.row k hk).1, HOR.out k hk⟩)
        have hT : next = s.2.2 := HNx.out.symm
        unfold Hid
        rw [hT]
        exact q2Q (s := (Mo.over s.1 A (List.replicate N []), s.2.1, s.2.2)) (rSectors.weaken h1 (fun q hq _ => by have h7 := HZ.out; have h8 := HB.out; unfold Hid at h7 h8; have z5 := SZ_5.out; unfold Hid at z5; have z6 := SZ_6.out; unfold Hid at z6; have z9 := SZ_9.out; unfold Hid at z9; have z10 := SZ_10.out; unfold Hid at z10; have h1 := hq.1; have h2 := hq.2; exact ⟨by omega, by omega⟩)) (rSnps.weaken Us_10.out (fun q hq _ => by have h7 := HZ.out; have h8 := HB.out; unfold Hid at h7 h8; have z5 := SZ_5.out; unfold Hid at z5; have z6 := SZ_6.out; unfold Hid at z6; have z9 := SZ_9.out; unfold Hid at z9; have z10 := SZ_10.out; unfold Hid at z10; have h1 := hq.1; have h2 := hq.2; exact ⟨by omega, by omega⟩)) (by rw [← hT]; exact HI.out.1)
       have HcS : Hid (Mo.chgS s x = (Mo.over s.1 A (List.replicate N []), s.2.1, s.2.2)) := by unfold Hid Mo.chgS Mo.what; rw [HwK.out]; show (Mo.over s.1 x.2.1.toNat (List.replicate x.2.2.1.toNat []), s.2.1, s.2.2) = _; rw [HA.out, HN.out]; rfl
       have HcD : Hid (Mo.chgD s x = []) := by unfold Hid Mo.chgD Mo.what; rw [HwK.out]; rfl
       have HcL : Hid (Mo.chgL s x = []) := by unfold Hid Mo.chgL Mo.what; rw [HwK.out]; rfl
       have HcI : Hid (Mo.chgI s x = 0) := by unfold Hid Mo.chgI Mo.what; rw [HwK.out]; rfl
       have HSeeT : Hid (∀ w', Kept (fun q => q ≠ w2.heap.size ∧ q ≠ w3.heap.size) w10 w' → w'.cell? ⟨W.heap.size, 0, none⟩ = some (.slice ua n uc) ∧ w'.cell? ⟨W.heap.size, 1, none⟩ = some (.slice va m vc) ∧ w'.cell? ⟨W.heap.size, 2, none⟩ = some (.int .i64 next) ∧ w'.cell? ⟨w4.heap.size, 0, none⟩ = some (.int .i64 0) ∧ w'.cell? ⟨w4.heap.size, 1, none⟩ = some (.slice none 0 0) ∧ w'.cell? ⟨w4.heap.size, 2, none⟩ = some (.int .i64 0) ∧ w'.cell? ⟨w4.heap.size, 3, none⟩ = some (.slice none 0 0) ∧ w'.cell? ⟨w4.heap.size, 4, none⟩ = some (.int .i64 0)) := fun w' hk => ⟨hk.cell (p := ⟨W.heap.size, 0, none⟩) (by have h7 := HZ.out; have h8 := HB.out; unfold Hid at h7 h8; have z5 := SZ_5.out; unfold Hid at z5; have z6 := SZ_6.out; unfold Hid at z6; have z9 := SZ_9.out; unfold Hid at z9; have z10 := SZ_10.out; unfold Hid at z10; exact ⟨by show W.heap.size ≠ w2.heap.size; omega, by show W.heap.size ≠ w3.heap.size; omega⟩) (Rt_10.out.cell (j := 0) rfl), hk.cell (p := ⟨W.heap.size, 1, none⟩) (by have h7 := HZ.out; have h8 := HB.out; unfold Hid at h7 h8; have z5 := SZ_5.out; unfold Hid at z5; have z6 := SZ_6.out; unfold Hid at z6; have z9 := SZ_9.out; unfold Hid at z9; have z10 := SZ_10.out; unfold Hid at z10; exact ⟨by show W.heap.size ≠ w2.heap.size; omega, by show W.heap.size ≠ w3.heap.size; omega⟩) (Rt_10.out.cell (j := 1) rfl), hk.cell (p := ⟨W.heap.size, 2, none⟩) (by have h7 := HZ.out; have h8 := HB.out; unfold Hid at h7 h8; have z5 := SZ_5.out; unfold Hid at z5; have z6 := SZ_6.out; unfold Hid at z6; have z9 := SZ_9.out; unfold Hid at z9; have z10 := SZ_10.out; unfold Hid at z10; exact ⟨by show W.heap.size ≠ w2.heap.size; omega, by show W.heap.size ≠ w3.heap.size; omega⟩) (Rt_10.out.cell (j := 2) rfl), hk.cell (p := ⟨w4.heap.size, 0, none⟩) (by have h7 := HZ.out; have h8 := HB.out; unfold Hid at h7 h8; have z5 := SZ_5.out; unfold Hid at z5; have z6 := SZ_6.out; unfold Hid at z6; have z9 := SZ_9.out; unfold Hid at z9; have z10 := SZ_10.out; unfold Hid at z10; exact ⟨by show w4.heap.size ≠ w2.heap.size; omega, by show w4.heap.size ≠ w3.heap.size; omega⟩) (Rr_10.out.cell (j := 0) rfl), hk.cell (p := ⟨w4.heap.size, 1, none⟩) (by have h7 := HZ.out; have h8 := HB.out; unfold Hid at h7 h8; have z5 := SZ_5.out; unfold Hid at z5; have z6 := SZ_6.out; unfold Hid at z6; have z9 := SZ_9.out; unfold Hid at z9; have z10 := SZ_10.out; unfold Hid at z10; exact ⟨by show w4.heap.size ≠ w2.heap.size; omega, by show w4.heap.size ≠ w3.heap.size; omega⟩) (Rr_10.out.cell (j := 1) rfl), hk.cell (p := ⟨w4.heap.size, 2, none⟩) (by have h7 := HZ.out; have h8 := HB.out; unfold Hid at h7 h8; have z5 := SZ_5.out; unfold Hid at z5; have z6 := SZ_6.out; unfold Hid at z6; have z9 := SZ_9.out; unfold Hid at z9; have z10 := SZ_10.out; unfold Hid at z10; exact ⟨by show w4.heap.size ≠ w2.heap.size; omega, by show w4.heap.size ≠ w3.heap.size; omega⟩) (Rr_10.out.cell (j := 2) rfl), hk.cell (p := ⟨w4.heap.size, 3, none⟩) (by have h7 := HZ.out; have h8 := HB.out; unfold Hid at h7 h8; have z5 := SZ_5.out; unfold Hid at z5; have z6 := SZ_6.out; unfold Hid at z6; have z9 := SZ_9.out; unfold Hid at z9; have z10 := SZ_10.out; unfold Hid at z10; exact ⟨by show w4.heap.size ≠ w2.heap.size; omega, by show w4.heap.size ≠ w3.heap.size; omega⟩) (Rr_10.out.cell (j := 3) rfl), hk.cell (p := ⟨w4.heap.size, 4, none⟩) (by have h7 := HZ.out; have h8 := HB.out; unfold Hid at h7 h8; have z5 := SZ_5.out; unfold Hid at z5; have z6 := SZ_6.out; unfold Hid at z6; have z9 := SZ_9.out; unfold Hid at z9; have z10 := SZ_10.out; unfold Hid at z10; exact ⟨by show w4.heap.size ≠ w2.heap.size; omega, by show w4.heap.size ≠ w3.heap.size; omega⟩) (Rr_10.out.cell (j := 4) rfl)⟩
       have S0 := HSeeT.out _ (Kept.refl _ w10).drew
       go_wp2_with fail
       refine wp_region_held_drew (S := (fun w' : World => w'.cell? ⟨W.heap.size, 0, none⟩ = some (.slice ua n uc) ∧ w'.cell? ⟨W.heap.size, 1, none⟩ = some (.slice va m vc) ∧ w'.cell? ⟨W.heap.size, 2, none⟩ = some (.int .i64 next) ∧ w'.cell? ⟨w4.heap.size, 0, none⟩ = some (.int .i64 0) ∧ w'.cell? ⟨w4.heap.size, 1, none⟩ = some (.slice none 0 0) ∧ w'.cell? ⟨w4.heap.size, 2, none⟩ = some (.int .i64 0) ∧ w'.cell? ⟨w4.heap.size, 3, none⟩ = some (.slice none 0 0) ∧ w'.cell? ⟨w4.heap.size, 4, none⟩ = some (.int .i64 0))) (by kernel_rfl) (S0) (fun hH => ?_)
       refine tkM 0 _ rfl rfl ?_; simp only [sz, ss]
       refine tkM 1 _ rfl rfl ?_; simp only [sz, ss]
       refine r1L 2 rfl fun K hK => ?_
       · have PA : Hid (Row w10 (w2.heap.size) 25 [.slice none 0 0, .slice none 0 0, .int .i64 0]) := Rp_10.out
         have sA0 := PA.out.cell (j := 0) rfl
         have uA0 := PA.out.frozen 0
         have sA1 := PA.out.cell (j := 1) rfl
         have uA1 := PA.out.frozen 1
         have sA2 := PA.out.cell (j := 2) rfl
         have uA2 := PA.out.frozen 2
         obtain ⟨wPA, hwPA, VPA, KPA⟩ := PA.out.whole3 (.slice ua n uc) (.slice va m vc) (.int .i64 next)
         have HVPA : Hid _ := VPA
         have KKA : Hid (Kept (fun q => q ≠ w2.heap.size ∧ q ≠ w3.heap.size) w10 wPA) := KPA.mono (fun q hq => hq.1)
         have SPA := HSeeT.out _ KKA.out.drew
         clear VPA
         go_simp
         refine hK.out _ _ ?_ (fun hH => ?_)
         · try dsimp only
           first | exact SPA | exact SPB | exact S0
         clear hK K
         refine r1L 3 rfl fun K hK => ?_
         · have PB : Hid (Row wPA (w3.heap.size) 43 [.int .i64 0, .slice none 0 0, .int .i64 0, .slice none 0 0, .int .i64 0]) := Rq_10.out.keep (KPA.block _ (by have h7 := HZ.out; have h8 := HB.out; unfold Hid at h7 h8; have z5 := SZ_5.out; unfold Hid at z5; have z6 := SZ_6.out; unfold Hid at z6; have z9 := SZ_9.out; unfold Hid at z9; have z10 := SZ_10.out; unfold Hid at z10; show w3.heap.size ≠ w2.heap.size; omega))
           have sB0 := PB.out.cell (j := 0) rfl
           have uB0 := PB.out.frozen 0
           have sB1 := PB.out.cell (j := 1) rfl
           have uB1 := PB.out.frozen 1
           have sB2 := PB.out.cell (j := 2) rfl
           have uB2 := PB.out.frozen 2
           have sB3 := PB.out.cell (j := 3) rfl
           have uB3 := PB.out.frozen 3
           have sB4 := PB.out.cell (j := 4) rfl
           have uB4 := PB.out.frozen 4
           obtain ⟨wPB, hwPB, VPB, KPB⟩ := PB.out.whole5 (.int .i64 0) (.slice none 0 0) (.int .i64 0) (.slice none 0 0) (.int .i64 0)
           have HVPB : Hid _ := VPB
           have KKB : Hid (Kept (fun q => q ≠ w2.heap.size ∧ q ≠ w3.heap.size) w10 wPB) := KKA.out.trans (KPB.mono (fun q hq => hq.2))
           have SPB := HSeeT.out _ KKB.out.drew
           clear VPB
           go_simp
           refine hK.out _ _ ?_ (fun hH => ?_)
           · try dsimp only
             exact SPB
           clear hK K
           refine wpAnyH_done (by kernel_rfl) ?_ _
           have VA9 : Hid (Row wPB.drew (w2.heap.size) 25 [.slice ua n uc, .slice va m vc, .int .i64 next]) := (HVPA.out.keep (KPB.block _ (by have h7 := HZ.out; have h8 := HB.out; unfold Hid at h7 h8; have z5 := SZ_5.out; unfold Hid at z5; have z6 := SZ_6.out; unfold Hid at z6; have z9 := SZ_9.out; unfold Hid at z9; have z10 := SZ_10.out; unfold Hid at z10; show w2.heap.size ≠ w3.heap.size; omega))).keep rfl
           have VB9 : Hid (Row wPB.drew _ _ _) := HVPB.out.keep rfl
           clear hH SPA SPB S0
           go_wp2
           refine bodyPost_ret (q0x rfl rfl rfl VA9.out VB9.out Try.underlying25 rfl (by kernel_rfl) Try.underlying43 rfl (by kernel_rfl)) rfl ⟨_, _, _, _, _, _, _, _, _, _, _, _, _, by rw [HcI.out], ?_, ?_, ?_, ?_⟩
           · rw [HcS.out]; exact rSta.weaken (Rep.kept Dz_10.out KKB.out.drew (fun q hq hl => by have h7 := HZ.out; have h8 := HB.out; unfold Hid at h7 h8; have z5 := SZ_5.out; unfold Hid at z5; have z6 := SZ_6.out; unfold Hid at z6; have z9 := SZ_9.out; unfold Hid at z9; have z10 := SZ_10.out; unfold Hid at z10; have h1 := hq.1; have h2 := hq.2; exact ⟨by show q ≠ _; omega, by show q ≠ _; omega⟩)) (fun q hq hl => by have h7 := HZ.out; have h8 := HB.out; unfold Hid at h7 h8; have z5 := SZ_5.out; unfold Hid at z5; have z6 := SZ_6.out; unfold Hid at z6; have z9 := SZ_9.out; unfold Hid at z9; have z10 := SZ_10.out; unfold Hid at z10; have h1 := hq.1; show base ≤ q; omega)
           · rw [HcD.out]; exact q0j _ _ _ _ (fun _ => rfl)
           · rw [HcL.out]; exact q0Z _ _
           · exact Kept.toBelow ((Kept.below B_10.out).trans (KKB.out.drew.mono (fun q hq => by have h7 := HZ.out; have h8 := HB.out; unfold Hid at h7 h8; have z5 := SZ_5.out; unfold Hid at z5; have z6 := SZ_6.out; unfold Hid at z6; have z9 := SZ_9.out; unfold Hid at z9; have z10 := SZ_10.out; unfold Hid at z10; have h1 : q < base := hq; exact ⟨by show q ≠ _; omega, by show q ≠ _; omega⟩)))
end Go.Proofs.Ytoophkmnppoppaa
