/-
  Facts that the proof rests on, part 26. Conditions: those that each of them names.
-/
import Derived.Test.YtoophkmnppoppaaM10
import Derived.Test.YtoophkmnppoppaaM17
import Derived.Test.YtoophkmnppoppaaM18
import Derived.Test.YtoophkmnppoppaaM21
namespace Go.Proofs.Ytoophkmnppoppaa
set_option maxHeartbeats 16000000
open Go.RowKit
set_option linter.unusedVariables false
set_option maxRecDepth 20000 in
theorem docChg4_u (W : World) (base hi : Nat) (s : Sta) (ua va : Option Addr) (n uc m vc : Nat) (x : Opn) (P : Nat → Prop) (xa : Option Addr) (xn xc : Nat)
 (hO : OwnsQ rBytes 26 W base (fun q => base ≤ q ∧ q < hi) (.slice ua n uc) s.1) (hOr : ∀ k, (Value.slice ua n uc).ownBlock = some k → k < hi) (hV : Owns rSnp 67 W hi (.slice va m vc) s.2.1) (hlm : s.2.1.length = m) (hln : s.1.length = n) (hb : base ≤ hi) (hh : hi ≤ W.heap.size)
 (hx : rOpn.rd W P [.int .i64 x.1, .int .i64 x.2.1, .int .i64 x.2.2.1, .int .i64 x.2.2.2.1, .string x.2.2.2.2.1, .slice xa xn xc] x) (hP : ∀ q, P q → q < base) (hok : Mo.ok s = true) (hE : Mo.opE s x = 0) (hw : x.1 = 4) :
 Calls Try.prog 34 #[.agg #[.slice ua n uc, .slice va m vc, .int .i64 s.2.2], .agg #[.int .i64 x.1, .int .i64 x.2.1, .int .i64 x.2.2.1, .int .i64 x.2.2.2.1, .string x.2.2.2.2.1, .slice xa xn xc]] W fun e w' => ∃ (a' : Option Addr) (n' c' : Nat) (b' : Option Addr) (m' d' : Nat) (t' : Int) (da : Option Addr) (dn dc : Nat) (la : Option Addr) (ln lc : Nat),
  e = .returned (.tuple #[.agg #[.slice a' n' c', .slice b' m' d', .int .i64 t'], .agg #[.int .i64 0, .slice da dn dc, .int .i64 (Mo.chgI s x), .slice la ln lc, .int .i64 0]]) ∧
  rSta.rd w' (fun q => base ≤ q) [.slice a' n' c', .slice b' m' d', .int .i64 t'] (Mo.chgS s x) ∧ rBytes.rd w' (fun q => base ≤ q) [.slice da dn dc] (Mo.chgD s x) ∧ rNmds.rd w' (fun q => base ≤ q) [.slice la ln lc] (Mo.chgL s x) ∧ Below base W w' := by
 have HF : Hid _ := (Mo.ok_iff s).1 hok
 have hm8 : m ≤ 8 := by have h1 := HF.out.few; omega
 have hn6 : n ≤ 65536 := by have h1 := (Mo.okDisk_iff.1 HF.out.now).1; omega
 have hN := OwnsQ.rdQ (hs := by decide) hO hln (by show n * 24 ≤ _; omega) (fun k hk => ⟨(hO.row k hk).1, hOr k hk⟩)
 obtain ⟨va', vc', e2, hL⟩ := Owns.rd (hs := by decide) hV (by rw [hlm]; show m * 48 ≤ _; omega)
 rw [hlm] at e2 hL
 simp only [Value.slice.injEq, true_and] at e2
 obtain ⟨rfl, rfl⟩ := e2
 obtain ⟨next, hnx⟩ : ∃ next, next = s.2.2 := ⟨_, rfl⟩
 have HNx : Hid (s.2.2 = next) := hnx.symm
 have HI : Hid (I64 next ∧ 1 ≤ next ∧ next ≤ 255) := by have h1 := HF.out.low; have h2 := HF.out.high; unfold Hid I64; omega
 rw [← hnx]
 have hS0 : rSta.rd W (fun q => base ≤ q ∧ q < W.heap.size) [.slice ua n uc, .slice va m vc, .int .i64 next] s := ⟨[_], [_, _], rfl, rSectors.weaken hN (fun q hq _ => ⟨hq.1, by omega⟩), [_], [_], rfl, rSnps.weaken hL (fun q hq hl => ⟨by have h : hi ≤ q := hq; omega, hl⟩), by rw [← hnx], by rw [← hnx]; exact HI.out.1⟩
 obtain ⟨xa', xn', xc', ex, hd, i0, i1, i2, i3, i4⟩ := q1X hx
 simp only [List.cons.injEq, Value.slice.injEq, and_true, true_and] at ex
 obtain ⟨rfl, rfl, rfl⟩ := ex
 have hd0 : rBytes.rd W (fun q => q < base ∧ q < W.heap.size) [.slice xa xn xc] x.2.2.2.2.2 := rBytes.weaken hd (fun q hq hl => ⟨hP q hq, hl⟩)
 have HIx : Hid (I64 x.1 ∧ I64 x.2.1 ∧ I64 x.2.2.1 ∧ I64 x.2.2.2.1 ∧ x.2.2.2.2.1.size ≤ maxLen) := ⟨i0, i1, i2, i3, i4⟩
 have HLm : Hid (s.2.1.length = m) := hlm
 have HLn : Hid (s.1.length = n) := hln
 have HE : Hid (Mo.opE s x = 0) := hE
 have HOk : Hid (Mo.ok s = true) := hok
 obtain ⟨w1, hw1, V1, b1, z1⟩ := q0q W 25 [.slice ua n uc, .slice va m vc, .int .i64 next]
 obtain ⟨w2, hw2, V2, b2, z2⟩ := q0q w1 28 [.int .i64 x.1, .int .i64 x.2.1, .int .i64 x.2.2.1, .int .i64 x.2.2.2.1, .string x.2.2.2.2.1, .slice xa xn xc]
 obtain ⟨w3, hw3, V3, b3, z3⟩ := q0q w2 25 [.slice none 0 0, .slice none 0 0, .int .i64 0]
 obtain ⟨w4, hw4, V4, b4, z4⟩ := q0q w3 43 [.int .i64 0, .slice none 0 0, .int .i64 0, .slice none 0 0, .int .i64 0]
 obtain ⟨w5, hw5, V5, b5, z5⟩ := q0q w4 43 [.int .i64 0, .slice none 0 0, .int .i64 0, .slice none 0 0, .int .i64 0]
 have HZ : Hid (w1.heap.size = W.heap.size + 1 ∧ w2.heap.size = W.heap.size + 2 ∧ w3.heap.size = W.heap.size + 3 ∧ w4.heap.size = W.heap.size + 4 ∧ w5.heap.size = W.heap.size + 5) := by unfold Hid; omega
 have HB : Hid (base ≤ hi ∧ hi ≤ W.heap.size ∧ m ≤ 8 ∧ n ≤ 65536) := ⟨hb, hh, hm8, hn6⟩
 have bel : Below W.heap.size W w5 := on (on (on (on b1 b2) b3) b4) b5
 have Rt_5 : Hid _ := (((V1.below b2).below b3).below b4).below b5
 have Rx_5 : Hid _ := ((V2.below b3).below b4).below b5
 have Rp_5 : Hid _ := (V3.below b4).below b5
 have Rq_5 : Hid (Row w5 (w3.heap.size) 43 [.int .i64 0, .slice none 0 0, .int .i64 0, .slice none 0 0, .int .i64 0]) := V4.below b5
 have Rr_5 : Hid _ := V5
 have Ds_5 : Hid (rSta.rd w5 (fun q => base ≤ q ∧ q < W.heap.size) [.slice ua n uc, .slice va m vc, .int .i64 next] (s)) := Rep.below hS0 bel
 have Yd_5 : Hid (rBytes.rd w5 (fun q => q < base ∧ q < W.heap.size) [.slice xa xn xc] (x.2.2.2.2.2)) := Rep.below hd0 bel
 have Jn_5 : Hid (OwnsQ rBytes 26 w5 base (fun q => base ≤ q ∧ q < hi) (.slice ua n uc) (s.1)) := hO.below bel
 have Mv_5 : Hid (OwnsQ rSnp 67 w5 hi (fun q => hi ≤ q ∧ (q < W.heap.size ∨ w5.heap.size ≤ q)) (.slice va m vc) (s.2.1)) := Owns.toQ2 hV _ (fun b h1 h2 => ⟨h1, .inl h2⟩) bel
 have HVr : Hid (∀ k, (Value.slice va m vc).ownBlock = some k → hi ≤ k ∧ k < W.heap.size) := fun k hk => hV.row k hk
 have HOR : Hid (∀ k, (Value.slice ua n uc).ownBlock = some k → k < hi) := hOr
 have Us_5 : Hid (rSnps.rd w5 (fun q => hi ≤ q ∧ q < W.heap.size) [.slice va m vc] (s.2.1)) := Rep.below (rSnps.weaken hL (fun q hq hl => ⟨hq, hl⟩)) bel
 have B_5 : Hid (Below base W w5) := bel.mono (by omega)
 have HwK : Hid (x.1 = 4) := hw
 clear hS0 hN hL hV hO hOr hd hd0 hx i0 i1 i2 i3 i4 V1 V2 V3 V4 V5 b1 b2 b3 b4 b5 z1 z2 z3 z4 z5 bel hnx hok hE hlm hln hb hh hw hm8 hn6 hP
 go_enter Try.func34, Try.ntmps34
 go_wp2_with fail
 have SZ_5 : Hid (w5.heap.size ≤ w5.heap.size) := Nat.le_refl _
 go_loopw [7] (fun i wr => ∃ j : Nat, j ≤ m ∧ i = .int .i64 j ∧ Hid (∀ (i : Nat) (hi : i < s.2.1.length), i < j → s.2.1[i].1 ≠ x.2.2.2.1) ∧ Below w5.heap.size w5 wr) (fun i _ => m - (intOf i).toNat)
 case atStart => exact ⟨0, Nat.zero_le _, rfl, (fun i _ h => by omega), Below.refl _ _⟩
 case round =>
  obtain ⟨j, hj, rfl, HJ, belo⟩ := hrel
  obtain ⟨w6, hw6⟩ : ∃ v, v = wr := ⟨_, rfl⟩
  subst hw6
  have Rt_6 : Hid _ := Rt_5.out.below (belo)
  have Rx_6 : Hid _ := Rx_5.out.below (belo)
  have Rp_6 : Hid _ := Rp_5.out.below (belo)
  have Rq_6 : Hid _ := Rq_5.out.below (belo)
  have Rr_6 : Hid _ := Rr_5.out.below (belo)
  have Ds_6 : Hid (rSta.rd w6 (fun q => base ≤ q ∧ q < W.heap.size) [.slice ua n uc, .slice va m vc, .int .i64 next] (s)) := Rep.below Ds_5.out (belo)
  have Yd_6 : Hid (rBytes.rd w6 (fun q => q < base ∧ q < W.heap.size) [.slice xa xn xc] (x.2.2.2.2.2)) := Rep.below Yd_5.out (belo)
  have Jn_6 : Hid (OwnsQ rBytes 26 w6 base (fun q => base ≤ q ∧ q < hi) (.slice ua n uc) (s.1)) := Jn_5.out.below (belo)
  have Mv_6 : Hid (OwnsQ rSnp 67 w6 hi (fun q => hi ≤ q ∧ (q < W.heap.size ∨ w5.heap.size ≤ q)) (.slice va m vc) (s.2.1)) := Mv_5.out.below (belo)
  have Us_6 : Hid (rSnps.rd w6 (fun q => hi ≤ q ∧ q < W.heap.size) [.slice va m vc] (s.2.1)) := Rep.below Us_5.out (belo)
  have B_6 : Hid (Below base W w6) := B_5.out.trans ((belo).mono (by have h1 := B_5.out.size; have h7 := HZ.out; have h8 := HB.out; unfold Hid at h7 h8; have z5 := SZ_5.out; unfold Hid at z5; omega))
  have SZ_6 : Hid (w5.heap.size ≤ w6.heap.size) := Nat.le_trans SZ_5.out (belo).size
  clear Rt_5 Rx_5 Rp_5 Rq_5 Rr_5 Ds_5 Yd_5 Jn_5 Mv_5 Us_5
  have BL : Hid _ := belo
  clear belo
  have qt0 := Rt_6.out.cell (j := 0) rfl
  have qt1 := Rt_6.out.cell (j := 1) rfl
  have qt2 := Rt_6.out.cell (j := 2) rfl
  have qx0 := Rx_6.out.cell (j := 0) rfl
  have qx1 := Rx_6.out.cell (j := 1) rfl
  have qx2 := Rx_6.out.cell (j := 2) rfl
  have qx3 := Rx_6.out.cell (j := 3) rfl
  have qx4 := Rx_6.out.cell (j := 4) rfl
  have qx5 := Rx_6.out.cell (j := 5) rfl
  have hm8 : m ≤ 8 := HB.out.2.2.1
  have HIdb : Hid (I64 x.2.2.2.1) := HIx.out.2.2.2.1
  by_cases hjm : j < m
  · skip
    obtain ⟨-, HPs, -, hls, -⟩ := q1Z Ds_6.out
    have hjs : j < s.2.1.length := by rw [hls]; exact hjm
    have hjz : (j : Int) < (m : Int) := by omega
    obtain ⟨g2, off2, hva, -, -, hct⟩ := q1J HPs (by omega)
    rw [hva] at qt1
    obtain ⟨y, ym, yd, -, -, s0', -, -, -, -⟩ := hct j hjs
    obtain ⟨idj, hidj⟩ : ∃ z, z = s.2.1[j].1 := ⟨_, rfl⟩
    rw [← hidj] at s0'
    have HIj : Hid (idj = s.2.1[j].1) := hidj
    clear hct HPs hls hidj
    by_cases hid : idj = x.2.2.2.1
    · skip
      have e1 : (idj != x.2.2.2.1) = false := by rw [hid]; exact bne_self_eq_false _
      have HPl : Hid (Mo.place s.2.1 (Mo.idO x) = j) := by
       unfold Hid Mo.place
       rw [(List.findIdx_eq hjs).2 ⟨by show decide (s.2.1[j].1 = x.2.2.2.1) = true; rw [← HIj.out, hid]; simp, fun i hi => by show decide (s.2.1[i].1 = x.2.2.2.1) = false; exact decide_eq_false (HJ.out i (by omega) hi)⟩]
      have HFound : Hid (j < m) := hjm
      clear hid
      go_wp2_with fail
      go_quiet (fail)
      clear e1 hva
      clear qt0 qt1 qt2 qx0 qx1 qx2 qx3 qx4 qx5
      obtain ⟨w7, hw7⟩ : ∃ v, v = w6.drewN nq := ⟨_, rfl⟩
      have bdr : Below w6.heap.size w6 w7 := by rw [hw7]; exact below_drewN (Below.refl _ _) _
      rw [← hw7]
      clear hw7
      have Rt_7 : Hid _ := Rt_6.out.below (bdr)
      have Rx_7 : Hid _ := Rx_6.out.below (bdr)
      have Rp_7 : Hid _ := Rp_6.out.below (bdr)
      have Rq_7 : Hid _ := Rq_6.out.below (bdr)
      have Rr_7 : Hid _ := Rr_6.out.below (bdr)
      have Ds_7 : Hid (rSta.rd w7 (fun q => base ≤ q ∧ q < W.heap.size) [.slice ua n uc, .slice va m vc, .int .i64 next] (s)) := Rep.below Ds_6.out (bdr)
      have Yd_7 : Hid (rBytes.rd w7 (fun q => q < base ∧ q < W.heap.size) [.slice xa xn xc] (x.2.2.2.2.2)) := Rep.below Yd_6.out (bdr)
      have Jn_7 : Hid (OwnsQ rBytes 26 w7 base (fun q => base ≤ q ∧ q < hi) (.slice ua n uc) (s.1)) := Jn_6.out.below (bdr)
      have Mv_7 : Hid (OwnsQ rSnp 67 w7 hi (fun q => hi ≤ q ∧ (q < W.heap.size ∨ w5.heap.size ≤ q)) (.slice va m vc) (s.2.1)) := Mv_6.out.below (bdr)
      have Us_7 : Hid (rSnps.rd w7 (fun q => hi ≤ q ∧ q < W.heap.size) [.slice va m vc] (s.2.1)) := Rep.below Us_6.out (bdr)
      have B_7 : Hid (Below base W w7) := B_6.out.trans ((bdr).mono (by have h1 := B_6.out.size; have h7 := HZ.out; have h8 := HB.out; unfold Hid at h7 h8; have z5 := SZ_5.out; unfold Hid at z5; have z6 := SZ_6.out; unfold Hid at z6; omega))
      have SZ_7 : Hid (w5.heap.size ≤ w7.heap.size) := Nat.le_trans SZ_6.out (bdr).size
      clear Rt_6 Rx_6 Rp_6 Rq_6 Rr_6 Ds_6 Yd_6 Jn_6 Mv_6 Us_6
      clear bdr
      have hk7 : x.1 = 4 := HwK.out
      have qt0 := Rt_7.out.cell (j := 0) rfl
      have qt1 := Rt_7.out.cell (j := 1) rfl
      have qt2 := Rt_7.out.cell (j := 2) rfl
      have qx0 := Rx_7.out.cell (j := 0) rfl
      have qx1 := Rx_7.out.cell (j := 1) rfl
      have qx2 := Rx_7.out.cell (j := 2) rfl
      have qx3 := Rx_7.out.cell (j := 3) rfl
      have qx4 := Rx_7.out.cell (j := 4) rfl
      have qx5 := Rx_7.out.cell (j := 5) rfl
      rw [hk7] at qx0
      clear hk7
      have hnx1 : 1 ≤ next := HI.out.2.1
      have hnx2 : next ≤ 255 := HI.out.2.2
      have pp8 := Rr_7.out.cell (j := 2) rfl
      have pf8 := Rr_7.out.frozen 2
      obtain ⟨w8, hs8⟩ : ∃ v, w7.setCell ⟨w4.heap.size, 2, none⟩ (.int .i64 next) = v := ⟨_, rfl⟩
      have K8 : Hid (Kept (· ≠ w4.heap.size) w7 w8) := by rw [← hs8]; exact (Kept.refl _ w7).setCell (p := ⟨w4.heap.size, 2, none⟩) (fun h => h rfl) _
      have Rt_8 : Hid (Row w8 (W.heap.size) 25 [.slice ua n uc, .slice va m vc, .int .i64 next]) := Rt_7.out.keep (K8.out.block _ (by have h7 := HZ.out; have h8 := HB.out; unfold Hid at h7 h8; have z5 := SZ_5.out; unfold Hid at z5; have z6 := SZ_6.out; unfold Hid at z6; have z7 := SZ_7.out; unfold Hid at z7; show W.heap.size ≠ w4.heap.size; omega))
      have Rx_8 : Hid (Row w8 (w1.heap.size) 28 [.int .i64 x.1, .int .i64 x.2.1, .int .i64 x.2.2.1, .int .i64 x.2.2.2.1, .string x.2.2.2.2.1, .slice xa xn xc]) := Rx_7.out.keep (K8.out.block _ (by have h7 := HZ.out; have h8 := HB.out; unfold Hid at h7 h8; have z5 := SZ_5.out; unfold Hid at z5; have z6 := SZ_6.out; unfold Hid at z6; have z7 := SZ_7.out; unfold Hid at z7; show w1.heap.size ≠ w4.heap.size; omega))
      have Rp_8 : Hid (Row w8 (w2.heap.size) 25 [.slice none 0 0, .slice none 0 0, .int .i64 0]) := Rp_7.out.keep (K8.out.block _ (by have h7 := HZ.out; have h8 := HB.out; unfold Hid at h7 h8; have z5 := SZ_5.out; unfold Hid at z5; have z6 := SZ_6.out; unfold Hid at z6; have z7 := SZ_7.out; unfold Hid at z7; show w2.heap.size ≠ w4.heap.size; omega))
      have Rq_8 : Hid (Row w8 (w3.heap.size) 43 [.int .i64 0, .slice none 0 0, .int .i64 0, .slice none 0 0, .int .i64 0]) := Rq_7.out.keep (K8.out.block _ (by have h7 := HZ.out; have h8 := HB.out; unfold Hid at h7 h8; have z5 := SZ_5.out; unfold Hid at z5; have z6 := SZ_6.out; unfold Hid at z6; have z7 := SZ_7.out; unfold Hid at z7; show w3.heap.size ≠ w4.heap.size; omega))
      have Rr_8 : Hid (Row w8 (w4.heap.size) 43 [.int .i64 0, .slice none 0 0, .int .i64 next, .slice none 0 0, .int .i64 0]) := by rw [← hs8]; exact Rr_7.out.set 2 _
      have Ds_8 : Hid (rSta.rd w8 (fun q => base ≤ q ∧ q < W.heap.size) [.slice ua n uc, .slice va m vc, .int .i64 next] (s)) := Rep.kept Ds_7.out K8.out (fun q hq hl => by have h7 := HZ.out; have h8 := HB.out; unfold Hid at h7 h8; have z5 := SZ_5.out; unfold Hid at z5; have z6 := SZ_6.out; unfold Hid at z6; have z7 := SZ_7.out; unfold Hid at z7; have h1 := hq.2; show q ≠ w4.heap.size; omega)
      have Yd_8 : Hid (rBytes.rd w8 (fun q => q < base ∧ q < W.heap.size) [.slice xa xn xc] (x.2.2.2.2.2)) := Rep.kept Yd_7.out K8.out (fun q hq hl => by have h7 := HZ.out; have h8 := HB.out; unfold Hid at h7 h8; have z5 := SZ_5.out; unfold Hid at z5; have z6 := SZ_6.out; unfold Hid at z6; have z7 := SZ_7.out; unfold Hid at z7; have h1 := hq.2; show q ≠ w4.heap.size; omega)
      have Jn_8 : Hid (OwnsQ rBytes 26 w8 base (fun q => base ≤ q ∧ q < hi) (.slice ua n uc) (s.1)) := Jn_7.out.keepK K8.out (fun q hq => by have h7 := HZ.out; have h8 := HB.out; unfold Hid at h7 h8; have z5 := SZ_5.out; unfold Hid at z5; have z6 := SZ_6.out; unfold Hid at z6; have z7 := SZ_7.out; unfold Hid at z7; have h1 := hq.1; have h2 := hq.2; show q ≠ w4.heap.size; omega) (fun q hq => by have h7 := HZ.out; have h8 := HB.out; unfold Hid at h7 h8; have z5 := SZ_5.out; unfold Hid at z5; have z6 := SZ_6.out; unfold Hid at z6; have z7 := SZ_7.out; unfold Hid at z7; have h3 := HOR.out q hq; show q ≠ w4.heap.size; omega)
      have Mv_8 : Hid (OwnsQ rSnp 67 w8 hi (fun q => hi ≤ q ∧ (q < W.heap.size ∨ w5.heap.size ≤ q)) (.slice va m vc) (s.2.1)) := Mv_7.out.keepK K8.out (fun q hq => by have h7 := HZ.out; have h8 := HB.out; unfold Hid at h7 h8; have z5 := SZ_5.out; unfold Hid at z5; have z6 := SZ_6.out; unfold Hid at z6; have z7 := SZ_7.out; unfold Hid at z7; have h1 := hq.1; have h2 := hq.2; show q ≠ w4.heap.size; omega) (fun q hq => by have h7 := HZ.out; have h8 := HB.out; unfold Hid at h7 h8; have z5 := SZ_5.out; unfold Hid at z5; have z6 := SZ_6.out; unfold Hid at z6; have z7 := SZ_7.out; unfold Hid at z7; have h3 := HVr.out q hq; show q ≠ w4.heap.size; omega)
      have Us_8 : Hid (rSnps.rd w8 (fun q => hi ≤ q ∧ q < W.heap.size) [.slice va m vc] (s.2.1)) := Rep.kept Us_7.out K8.out (fun q hq hl => by have h7 := HZ.out; have h8 := HB.out; unfold Hid at h7 h8; have z5 := SZ_5.out; unfold Hid at z5; have z6 := SZ_6.out; unfold Hid at z6; have z7 := SZ_7.out; unfold Hid at z7; have h1 := hq.2; show q ≠ w4.heap.size; omega)
      have B_8 : Hid (Below base W w8) := Kept.belowOf B_7.out K8.out (by have h7 := HZ.out; have h8 := HB.out; unfold Hid at h7 h8; have z5 := SZ_5.out; unfold Hid at z5; have z6 := SZ_6.out; unfold Hid at z6; have z7 := SZ_7.out; unfold Hid at z7; omega)
      have SZ_8 : Hid (w5.heap.size ≤ w8.heap.size) := Nat.le_trans SZ_7.out K8.out.size
      clear Rt_7 Rx_7 Rp_7 Rq_7 Rr_7 Ds_7 Yd_7 Jn_7 Mv_7 Us_7
      have qt0 := Rt_8.out.cell (j := 0) rfl
      have qt1 := Rt_8.out.cell (j := 1) rfl
      have qt2 := Rt_8.out.cell (j := 2) rfl
      have qx0 := Rx_8.out.cell (j := 0) rfl
      have qx1 := Rx_8.out.cell (j := 1) rfl
      have qx2 := Rx_8.out.cell (j := 2) rfl
      have qx3 := Rx_8.out.cell (j := 3) rfl
      have qx4 := Rx_8.out.cell (j := 4) rfl
      have qx5 := Rx_8.out.cell (j := 5) rfl
      go_wp2_with fail
      have HNow : Hid (rSectors.rd w8 (fun q => base ≤ q ∧ q < hi) [.slice ua n uc] s.1) := OwnsQ.rdQ (hs := by decide) Jn_8.out HLn.out (by have h := HB.out.2.2.2; show n * 24 ≤ _; omega) (fun k hk => ⟨(Jn_8.out.row k hk).1, HOR.out k hk⟩)
      clear qt1
      have HSee : Hid (∀ w', Below w8.heap.size w8 w' → w'.cell? ⟨W.heap.size, 0, none⟩ = some (.slice ua n uc) ∧ w'.cell? ⟨W.heap.size, 2, none⟩ = some (.int .i64 next) ∧ w'.cell? ⟨w1.heap.size, 4, none⟩ = some (.string x.2.2.2.2.1)) := fun w' hb => ⟨(Rt_8.out.below hb).cell (j := 0) rfl, (Rt_8.out.below hb).cell (j := 2) rfl, (Rx_8.out.below hb).cell (j := 4) rfl⟩
      have S0 := HSee.out _ (Below.refl _ w8).drew
      go_cut [98] (fun _ wx => ∃ b6 d6, Hid (Row wx (W.heap.size) 25 [.slice ua n uc, .slice b6 (m + 1) d6, .int .i64 next]) ∧ Hid (OwnsQ rSnp 67 wx hi (fun q => hi ≤ q ∧ (q < W.heap.size ∨ w5.heap.size ≤ q)) (.slice b6 (m + 1) d6) (s.2.1 ++ [(next, x.2.2.2.2.1, s.1)])) ∧ Hid (∀ k, (Value.slice b6 (m + 1) d6).ownBlock = some k → k < W.heap.size ∨ w5.heap.size ≤ k) ∧ Hid (Kept (fun q => q < w8.heap.size ∧ q ≠ W.heap.size ∧ some q ≠ (Value.slice va m vc).ownBlock) w8 wx))
      case first =>
       refine wp_region_held_drew (S := (fun w' : World => w'.cell? ⟨W.heap.size, 0, none⟩ = some (.slice ua n uc) ∧ w'.cell? ⟨W.heap.size, 2, none⟩ = some (.int .i64 next) ∧ w'.cell? ⟨w1.heap.size, 4, none⟩ = some (.string x.2.2.2.2.1))) (by kernel_rfl) (S0) (fun hH => ?_)
       refine tkM 0 _ rfl rfl ?_; simp only [sz, ss]
       refine tkM 2 _ rfl rfl ?_; simp only [sz, ss]
       refine tkM 3 _ rfl rfl ?_; simp only [sz, ss]
       refine tkM 4 _ rfl rfl ?_; simp only [sz, ss]
       refine tkM 5 _ rfl rfl ?_; simp only [sz, ss]
       refine tkM 6 _ rfl rfl ?_; simp only [sz, ss]
       refine tkM 7 _ rfl rfl ?_; simp only [sz, ss]
       refine rdL [1, 8] ?_
       refine rcL (fun K hK => ?_) ?_
       · have p1 := Rt_8.out.cell (j := 1) rfl
         go_simp
         clear p1
         refine hK.out _ _ ?_ (fun hH => ?_)
         · try dsimp only
           first | exact S4 | exact S3 | exact S2 | exact S1 | exact S0
         clear hK K
         refine r1L 8 rfl fun K hK => ?_
         · go_simp
           go_at_call 52
           refine Calls.mono (q4Q w8.drew _ ua n uc s.1 (rSectors.keep HNow.out (fun _ _ _ => rfl))) ?_
           rintro e w50 ⟨g5, d5, rfl, hrd5, bd5⟩
           have B5 : Hid (Below w8.heap.size w8 w50) := (Below.refl _ w8).drew.trans bd5
           have HR5 : Hid (rSectors.rd w50 (fun q => w8.heap.size ≤ q) [.slice g5 n d5] s.1) := hrd5
           have S1 := HSee.out _ B5.out
           clear hrd5 bd5
           go_simp
           refine hK.out _ _ ?_ (fun hH => ?_)
           · try dsimp only
             first | exact S4 | exact S3 | exact S2 | exact S1 | exact S0
           clear hK K
           refine tkM 9 _ rfl rfl ?_; simp only [sz, ss]
           refine r1L 10 rfl fun K hK => ?_
           · go_simp
             have BA0 : Hid (Below w50.heap.size w50 (w50.alloc (.cells #[.int .i64 next, .string x.2.2.2.2.1, .slice g5 n d5] 67))) := (Below.refl _ _).alloc (Nat.le_refl _) _
             have BA : Hid _ := on B5.out BA0.out
             have S2 := HSee.out _ BA.out
             refine hK.out _ _ ?_ (fun hH => ?_)
             · try dsimp only
               first | exact S4 | exact S3 | exact S2 | exact S1 | exact S0
             clear hK K
             refine r1L 11 rfl fun K hK => ?_
             · refine q2q q3Z rfl (.tmp 88) (.tmp 97) rfl hi (fun q => hi ≤ q ∧ (q < W.heap.size ∨ w5.heap.size ≤ q)) (.slice va m vc) s.2.1 (by simp [Go.Act.eval]) (Mv_8.out.below BA.out) ⟨w50.heap.size, 0, none⟩ [.int .i64 next, .string x.2.2.2.2.1, .slice g5 n d5] (next, x.2.2.2.2.1, s.1) (by simp [Go.Act.eval]) (q3J w50 next x.2.2.2.2.1 _ _) ?_ ?_ ?_ ?_ ?_
               · exact rSnp.weaken (q4j HI.out.1 HIx.out.2.2.2.2 (Rep.below HR5.out BA0.out)) (fun q hq _ => ⟨by have h1 : w8.heap.size ≤ q := hq; have h7 := HZ.out; have h8 := HB.out; unfold Hid at h7 h8; have z5 := SZ_5.out; unfold Hid at z5; have z6 := SZ_6.out; unfold Hid at z6; have z7 := SZ_7.out; unfold Hid at z7; have z8 := SZ_8.out; unfold Hid at z8; exact ⟨by omega, .inr (by omega)⟩, fun e => by have h1 : w8.heap.size ≤ q := hq; have h3 := HVr.out q e; have h7 := HZ.out; have h8 := HB.out; unfold Hid at h7 h8; have z5 := SZ_5.out; unfold Hid at z5; have z6 := SZ_6.out; unfold Hid at z6; have z7 := SZ_7.out; unfold Hid at z7; have z8 := SZ_8.out; unfold Hid at z8; omega⟩)
               · rw [HLm.out]; have h := HB.out.2.2.1; show _ * 48 ≤ _; omega
               · rw [HLm.out]; have h := HB.out.2.2.1; unfold maxLen; omega
               · have h1 := BA.out.size; have h7 := HZ.out; have h8 := HB.out; unfold Hid at h7 h8; have z5 := SZ_5.out; unfold Hid at z5; have z6 := SZ_6.out; unfold Hid at z6; have z7 := SZ_7.out; unfold Hid at z7; have z8 := SZ_8.out; unfold Hid at z8; omega
               intro b6 d6 w6 ho6 g6 hown6
               rw [HLm.out] at ho6 hown6 ⊢
               have HO6 : Hid (OwnsQ rSnp 67 w6 hi (fun q => hi ≤ q ∧ (q < W.heap.size ∨ w5.heap.size ≤ q)) (.slice b6 (m + 1) d6) (s.2.1 ++ [(next, x.2.2.2.2.1, s.1)])) := ho6
               have K6 : Hid (Kept (fun q => q < w8.heap.size ∧ some q ≠ (Value.slice va m vc).ownBlock) w8 w6) := ((Kept.below BA.out).mono (fun q hq => hq.1)).grown g6 (fun q hq => Nat.lt_of_lt_of_le hq.1 BA.out.size) (fun q hq hs => hs.2 hq.symm)
               have HR6 : Hid (∀ k, (Value.slice b6 (m + 1) d6).ownBlock = some k → k < W.heap.size ∨ w5.heap.size ≤ k) := fun q hq => by
                rcases hown6 with h | h
                · rw [h] at hq; exact .inl (HVr.out q hq).2
                · rw [h] at hq; cases hq; right; have h1 := BA.out.size; have h7 := HZ.out; have h8 := HB.out; unfold Hid at h7 h8; have z5 := SZ_5.out; unfold Hid at z5; have z6 := SZ_6.out; unfold Hid at z6; have z7 := SZ_7.out; unfold Hid at z7; have z8 := SZ_8.out; unfold Hid at z8; omega
               have VT6 : Hid (Row w6 (W.heap.size) 25 [.slice ua n uc, .slice va m vc, .int .i64 next]) := Rt_8.out.keep (K6.out.block _ ⟨Rt_8.out.lt, fun e => by have h := (HVr.out _ e.symm).2; omega⟩)
               have VX6 : Hid (Row w6 (w1.heap.size) 28 [.int .i64 x.1, .int .i64 x.2.1, .int .i64 x.2.2.1, .int .i64 x.2.2.2.1, .string x.2.2.2.2.1, .slice xa xn xc]) := Rx_8.out.keep (K6.out.block _ ⟨Rx_8.out.lt, fun e => by have h := (HVr.out _ e.symm).2; have h7 := HZ.out; have h8 := HB.out; unfold Hid at h7 h8; have z5 := SZ_5.out; unfold Hid at z5; have z6 := SZ_6.out; unfold Hid at z6; have z7 := SZ_7.out; unfold Hid at z7; have z8 := SZ_8.out; unfold Hid at z8; omega⟩)
               have S3 : w6.cell? ⟨W.heap.size, 0, none⟩ = some (.slice ua n uc) ∧ w6.cell? ⟨W.heap.size, 2, none⟩ = some (.int .i64 next) ∧ w6.cell? ⟨w1.heap.size, 4, none⟩ = some (.string x.2.2.2.2.1) := ⟨VT6.out.cell (j := 0) rfl, VT6.out.cell (j := 2) rfl, VX6.out.cell (j := 4) rfl⟩
               clear ho6 g6 hown6
               try go_simp
               refine hK.out _ _ ?_ (fun hH => ?_)
               · try dsimp only
                 first | exact S4 | exact S3 | exact S2 | exact S1 | exact S0
               clear hK K
               refine tkM 12 _ rfl rfl ?_; simp only [sz, ss]
               refine r1L 13 rfl fun K hK => ?_
               · have p1 := VT6.out.cell (j := 1) rfl
                 have f1 := VT6.out.frozen 1
                 have VT7 : Hid (Row (w6.setCell ⟨W.heap.size, 1, none⟩ (.slice b6 (m + 1) d6)) (W.heap.size) 25 [.slice ua n uc, .slice b6 (m + 1) d6, .int .i64 next]) := VT6.out.set 1 _
                 have KX : Hid (Kept (· ≠ W.heap.size) w6 (w6.setCell ⟨W.heap.size, 1, none⟩ (.slice b6 (m + 1) d6))) := (Kept.refl _ w6).setCell (p := ⟨W.heap.size, 1, none⟩) (fun h => h rfl) _
                 have S4 : (w6.setCell ⟨W.heap.size, 1, none⟩ (.slice b6 (m + 1) d6)).cell? ⟨W.heap.size, 0, none⟩ = some (.slice ua n uc) ∧ (w6.setCell ⟨W.heap.size, 1, none⟩ (.slice b6 (m + 1) d6)).cell? ⟨W.heap.size, 2, none⟩ = some (.int .i64 next) ∧ (w6.setCell ⟨W.heap.size, 1, none⟩ (.slice b6 (m + 1) d6)).cell? ⟨w1.heap.size, 4, none⟩ = some (.string x.2.2.2.2.1) := ⟨VT7.out.cell (j := 0) rfl, VT7.out.cell (j := 2) rfl, (VX6.out.keep (KX.out.block _ (by have h7 := HZ.out; have h8 := HB.out; unfold Hid at h7 h8; have z5 := SZ_5.out; unfold Hid at z5; have z6 := SZ_6.out; unfold Hid at z6; have z7 := SZ_7.out; unfold Hid at z7; have z8 := SZ_8.out; unfold Hid at z8; show w1.heap.size ≠ W.heap.size; omega))).cell (j := 4) rfl⟩
                 go_simp
                 clear p1 f1
                 refine hK.out _ _ ?_ (fun hH => ?_)
                 · try dsimp only
                   first | exact S4 | exact S3 | exact S2 | exact S1 | exact S0
                 clear hK K
                 refine wpAnyH_done (by kernel_rfl) ?_ _
                 clear hH S4 S3 S2 S1
                 go_wp2_with fail
                 go_meet
                 exact ⟨b6, d6, VT7, HO6.out.keepK KX.out (fun q hq => by have h2 := hq.2; have h7 := HZ.out; have h8 := HB.out; unfold Hid at h7 h8; have z5 := SZ_5.out; unfold Hid at z5; have z6 := SZ_6.out; unfold Hid at z6; have z7 := SZ_7.out; unfold Hid at z7; have z8 := SZ_8.out; unfold Hid at z8; show q ≠ W.heap.size; omega) (fun q hq => by have h := HR6.out q hq; have h7 := HZ.out; have h8 := HB.out; unfold Hid at h7 h8; have z5 := SZ_5.out; unfold Hid at z5; have z6 := SZ_6.out; unfold Hid at z6; have z7 := SZ_7.out; unfold Hid at z7; have z8 := SZ_8.out; unfold Hid at z8; show q ≠ W.heap.size; omega), HR6, (K6.out.mono (fun q hq => ⟨hq.1, hq.2.2⟩)).trans (KX.out.mono (fun q hq => hq.2.1))⟩
       refine rcL (fun K hK => ?_) ?_
       · go_simp
         go_at_call 52
         refine Calls.mono (q4Q w8.drew _ ua n uc s.1 (rSectors.keep HNow.out (fun _ _ _ => rfl))) ?_
         rintro e w50 ⟨g5, d5, rfl, hrd5, bd5⟩
         have B5 : Hid (Below w8.heap.size w8 w50) := (Below.refl _ w8).drew.trans bd5
         have HR5 : Hid (rSectors.rd w50 (fun q => w8.heap.size ≤ q) [.slice g5 n d5] s.1) := hrd5
         have S1 := HSee.out _ B5.out
         clear hrd5 bd5
         go_simp
         refine hK.out _ _ ?_ (fun hH => ?_)
         · try dsimp only
           first | exact S4 | exact S3 | exact S2 | exact S1 | exact S0
         clear hK K
         refine tkM 9 _ rfl rfl ?_; simp only [sz, ss]
         refine rdL [1, 10] ?_
         refine rcL (fun K hK => ?_) ?_
         · have p1 := (Rt_8.out.below B5.out).cell (j := 1) rfl
           go_simp
           clear p1
           refine hK.out _ _ ?_ (fun hH => ?_)
           · try dsimp only
             first | exact S4 | exact S3 | exact S2 | exact S1 | exact S0
           clear hK K
           refine r1L 10 rfl fun K hK => ?_
           · go_simp
             have BA0 : Hid (Below w50.heap.size w50 (w50.alloc (.cells #[.int .i64 next, .string x.2.2.2.2.1, .slice g5 n d5] 67))) := (Below.refl _ _).alloc (Nat.le_refl _) _
             have BA : Hid _ := on B5.out BA0.out
             have S2 := HSee.out _ BA.out
             refine hK.out _ _ ?_ (fun hH => ?_)
             · try dsimp only
               first | exact S4 | exact S3 | exact S2 | exact S1 | exact S0
             clear hK K
             refine r1L 11 rfl fun K hK => ?_
             · refine q2q q3Z rfl (.tmp 88) (.tmp 97) rfl hi (fun q => hi ≤ q ∧ (q < W.heap.size ∨ w5.heap.size ≤ q)) (.slice va m vc) s.2.1 (by simp [Go.Act.eval]) (Mv_8.out.below BA.out) ⟨w50.heap.size, 0, none⟩ [.int .i64 next, .string x.2.2.2.2.1, .slice g5 n d5] (next, x.2.2.2.2.1, s.1) (by simp [Go.Act.eval]) (q3J w50 next x.2.2.2.2.1 _ _) ?_ ?_ ?_ ?_ ?_
               · exact rSnp.weaken (q4j HI.out.1 HIx.out.2.2.2.2 (Rep.below HR5.out BA0.out)) (fun q hq _ => ⟨by have h1 : w8.heap.size ≤ q := hq; have h7 := HZ.out; have h8 := HB.out; unfold Hid at h7 h8; have z5 := SZ_5.out; unfold Hid at z5; have z6 := SZ_6.out; unfold Hid at z6; have z7 := SZ_7.out; unfold Hid at z7; have z8 := SZ_8.out; unfold Hid at z8; exact ⟨by omega, .inr (by omega)⟩, fun e => by have h1 : w8.heap.size ≤ q := hq; have h3 := HVr.out q e; have h7 := HZ.out; have h8 := HB.out; unfold Hid at h7 h8; have z5 := SZ_5.out; unfold Hid at z5; have z6 := SZ_6.out; unfold Hid at z6; have z7 := SZ_7.out; unfold Hid at z7; have z8 := SZ_8.out; unfold Hid at z8; omega⟩)
               · rw [HLm.out]; have h := HB.out.2.2.1; show _ * 48 ≤ _; omega
               · rw [HLm.out]; have h := HB.out.2.2.1; unfold maxLen; omega
               · have h1 := BA.out.size; have h7 := HZ.out; have h8 := HB.out; unfold Hid at h7 h8; have z5 := SZ_5.out; unfold Hid at z5; have z6 := SZ_6.out; unfold Hid at z6; have z7 := SZ_7.out; unfold Hid at z7; have z8 := SZ_8.out; unfold Hid at z8; omega
               intro b6 d6 w6 ho6 g6 hown6
               rw [HLm.out] at ho6 hown6 ⊢
               have HO6 : Hid (OwnsQ rSnp 67 w6 hi (fun q => hi ≤ q ∧ (q < W.heap.size ∨ w5.heap.size ≤ q)) (.slice b6 (m + 1) d6) (s.2.1 ++ [(next, x.2.2.2.2.1, s.1)])) := ho6
               have K6 : Hid (Kept (fun q => q < w8.heap.size ∧ some q ≠ (Value.slice va m vc).ownBlock) w8 w6) := ((Kept.below BA.out).mono (fun q hq => hq.1)).grown g6 (fun q hq => Nat.lt_of_lt_of_le hq.1 BA.out.size) (fun q hq hs => hs.2 hq.symm)
               have HR6 : Hid (∀ k, (Value.slice b6 (m + 1) d6).ownBlock = some k → k < W.heap.size ∨ w5.heap.size ≤ k) := fun q hq => by
                rcases hown6 with h | h
                · rw [h] at hq; exact .inl (HVr.out q hq).2
                · rw [h] at hq; cases hq; right; have h1 := BA.out.size; have h7 := HZ.out; have h8 := HB.out; unfold Hid at h7 h8; have z5 := SZ_5.out; unfold Hid at z5; have z6 := SZ_6.out; unfold Hid at z6; have z7 := SZ_7.out; unfold Hid at z7; have z8 := SZ_8.out; unfold Hid at z8; omega
               have VT6 : Hid (Row w6 (W.heap.size) 25 [.slice ua n uc, .slice va m vc, .int .i64 next]) := Rt_8.out.keep (K6.out.block _ ⟨Rt_8.out.lt, fun e => by have h := (HVr.out _ e.symm).2; omega⟩)
               have VX6 : Hid (Row w6 (w1.heap.size) 28 [.int .i64 x.1, .int .i64 x.2.1, .int .i64 x.2.2.1, .int .i64 x.2.2.2.1, .string x.2.2.2.2.1, .slice xa xn xc]) := Rx_8.out.keep (K6.out.block _ ⟨Rx_8.out.lt, fun e => by have h := (HVr.out _ e.symm).2; have h7 := HZ.out; have h8 := HB.out; unfold Hid at h7 h8; have z5 := SZ_5.out; unfold Hid at z5; have z6 := SZ_6.out; unfold Hid at z6; have z7 := SZ_7.out; unfold Hid at z7; have z8 := SZ_8.out; unfold Hid at z8; omega⟩)
               have S3 : w6.cell? ⟨W.heap.size, 0, none⟩ = some (.slice ua n uc) ∧ w6.cell? ⟨W.heap.size, 2, none⟩ = some (.int .i64 next) ∧ w6.cell? ⟨w1.heap.size, 4, none⟩ = some (.string x.2.2.2.2.1) := ⟨VT6.out.cell (j := 0) rfl, VT6.out.cell (j := 2) rfl, VX6.out.cell (j := 4) rfl⟩
               clear ho6 g6 hown6
               try go_simp
               refine hK.out _ _ ?_ (fun hH => ?_)
               · try dsimp only
                 first | exact S4 | exact S3 | exact S2 | exact S1 | exact S0
               clear hK K
               refine tkM 12 _ rfl rfl ?_; simp only [sz, ss]
               refine r1L 13 rfl fun K hK => ?_
               · have p1 := VT6.out.cell (j := 1) rfl
                 have f1 := VT6.out.frozen 1
                 have VT7 : Hid (Row (w6.setCell ⟨W.heap.size, 1, none⟩ (.slice b6 (m + 1) d6)) (W.heap.size) 25 [.slice ua n uc, .slice b6 (m + 1) d6, .int .i64 next]) := VT6.out.set 1 _
                 have KX : Hid (Kept (· ≠ W.heap.size) w6 (w6.setCell ⟨W.heap.size, 1, none⟩ (.slice b6 (m + 1) d6))) := (Kept.refl _ w6).setCell (p := ⟨W.heap.size, 1, none⟩) (fun h => h rfl) _
                 have S4 : (w6.setCell ⟨W.heap.size, 1, none⟩ (.slice b6 (m + 1) d6)).cell? ⟨W.heap.size, 0, none⟩ = some (.slice ua n uc) ∧ (w6.setCell ⟨W.heap.size, 1, none⟩ (.slice b6 (m + 1) d6)).cell? ⟨W.heap.size, 2, none⟩ = some (.int .i64 next) ∧ (w6.setCell ⟨W.heap.size, 1, none⟩ (.slice b6 (m + 1) d6)).cell? ⟨w1.heap.size, 4, none⟩ = some (.string x.2.2.2.2.1) := ⟨VT7.out.cell (j := 0) rfl, VT7.out.cell (j := 2) rfl, (VX6.out.keep (KX.out.block _ (by have h7 := HZ.out; have h8 := HB.out; unfold Hid at h7 h8; have z5 := SZ_5.out; unfold Hid at z5; have z6 := SZ_6.out; unfold Hid at z6; have z7 := SZ_7.out; unfold Hid at z7; have z8 := SZ_8.out; unfold Hid at z8; show w1.heap.size ≠ W.heap.size; omega))).cell (j := 4) rfl⟩
                 go_simp
                 clear p1 f1
                 refine hK.out _ _ ?_ (fun hH => ?_)
                 · try dsimp only
                   first | exact S4 | exact S3 | exact S2 | exact S1 | exact S0
                 clear hK K
                 refine wpAnyH_done (by kernel_rfl) ?_ _
                 clear hH S4 S3 S2 S1
                 go_wp2_with fail
                 go_meet
                 exact ⟨b6, d6, VT7, HO6.out.keepK KX.out (fun q hq => by have h2 := hq.2; have h7 := HZ.out; have h8 := HB.out; unfold Hid at h7 h8; have z5 := SZ_5.out; unfold Hid at z5; have z6 := SZ_6.out; unfold Hid at z6; have z7 := SZ_7.out; unfold Hid at z7; have z8 := SZ_8.out; unfold Hid at z8; show q ≠ W.heap.size; omega) (fun q hq => by have h := HR6.out q hq; have h7 := HZ.out; have h8 := HB.out; unfold Hid at h7 h8; have z5 := SZ_5.out; unfold Hid at z5; have z6 := SZ_6.out; unfold Hid at z6; have z7 := SZ_7.out; unfold Hid at z7; have z8 := SZ_8.out; unfold Hid at z8; show q ≠ W.heap.size; omega), HR6, (K6.out.mono (fun q hq => ⟨hq.1, hq.2.2⟩)).trans (KX.out.mono (fun q hq => hq.2.1))⟩
         refine rcL (fun K hK => ?_) ?_
         · go_simp
           have BA0 : Hid (Below w50.heap.size w50 (w50.alloc (.cells #[.int .i64 next, .string x.2.2.2.2.1, .slice g5 n d5] 67))) := (Below.refl _ _).alloc (Nat.le_refl _) _
           have BA : Hid _ := on B5.out BA0.out
           have S2 := HSee.out _ BA.out
           refine hK.out _ _ ?_ (fun hH => ?_)
           · try dsimp only
             first | exact S4 | exact S3 | exact S2 | exact S1 | exact S0
           clear hK K
           refine r1L 1 rfl fun K hK => ?_
           · have p1 := (Rt_8.out.below (BA.out)).cell (j := 1) rfl
             go_simp
             clear p1
             refine hK.out _ _ ?_ (fun hH => ?_)
             · try dsimp only
               first | exact S4 | exact S3 | exact S2 | exact S1 | exact S0
             clear hK K
             refine r1L 11 rfl fun K hK => ?_
             · refine q2q q3Z rfl (.tmp 88) (.tmp 97) rfl hi (fun q => hi ≤ q ∧ (q < W.heap.size ∨ w5.heap.size ≤ q)) (.slice va m vc) s.2.1 (by simp [Go.Act.eval]) (Mv_8.out.below BA.out) ⟨w50.heap.size, 0, none⟩ [.int .i64 next, .string x.2.2.2.2.1, .slice g5 n d5] (next, x.2.2.2.2.1, s.1) (by simp [Go.Act.eval]) (q3J w50 next x.2.2.2.2.1 _ _) ?_ ?_ ?_ ?_ ?_
               · exact rSnp.weaken (q4j HI.out.1 HIx.out.2.2.2.2 (Rep.below HR5.out BA0.out)) (fun q hq _ => ⟨by have h1 : w8.heap.size ≤ q := hq; have h7 := HZ.out; have h8 := HB.out; unfold Hid at h7 h8; have z5 := SZ_5.out; unfold Hid at z5; have z6 := SZ_6.out; unfold Hid at z6; have z7 := SZ_7.out; unfold Hid at z7; have z8 := SZ_8.out; unfold Hid at z8; exact ⟨by omega, .inr (by omega)⟩, fun e => by have h1 : w8.heap.size ≤ q := hq; have h3 := HVr.out q e; have h7 := HZ.out; have h8 := HB.out; unfold Hid at h7 h8; have z5 := SZ_5.out; unfold Hid at z5; have z6 := SZ_6.out; unfold Hid at z6; have z7 := SZ_7.out; unfold Hid at z7; have z8 := SZ_8.out; unfold Hid at z8; omega⟩)
               · rw [HLm.out]; have h := HB.out.2.2.1; show _ * 48 ≤ _; omega
               · rw [HLm.out]; have h := HB.out.2.2.1; unfold maxLen; omega
               · have h1 := BA.out.size; have h7 := HZ.out; have h8 := HB.out; unfold Hid at h7 h8; have z5 := SZ_5.out; unfold Hid at z5; have z6 := SZ_6.out; unfold Hid at z6; have z7 := SZ_7.out; unfold Hid at z7; have z8 := SZ_8.out; unfold Hid at z8; omega
               intro b6 d6 w6 ho6 g6 hown6
               rw [HLm.out] at ho6 hown6 ⊢
               have HO6 : Hid (OwnsQ rSnp 67 w6 hi (fun q => hi ≤ q ∧ (q < W.heap.size ∨ w5.heap.size ≤ q)) (.slice b6 (m + 1) d6) (s.2.1 ++ [(next, x.2.2.2.2.1, s.1)])) := ho6
               have K6 : Hid (Kept (fun q => q < w8.heap.size ∧ some q ≠ (Value.slice va m vc).ownBlock) w8 w6) := ((Kept.below BA.out).mono (fun q hq => hq.1)).grown g6 (fun q hq => Nat.lt_of_lt_of_le hq.1 BA.out.size) (fun q hq hs => hs.2 hq.symm)
               have HR6 : Hid (∀ k, (Value.slice b6 (m + 1) d6).ownBlock = some k → k < W.heap.size ∨ w5.heap.size ≤ k) := fun q hq => by
                rcases hown6 with h | h
                · rw [h] at hq; exact .inl (HVr.out q hq).2
                · rw [h] at hq; cases hq; right; have h1 := BA.out.size; have h7 := HZ.out; have h8 := HB.out; unfold Hid at h7 h8; have z5 := SZ_5.out; unfold Hid at z5; have z6 := SZ_6.out; unfold Hid at z6; have z7 := SZ_7.out; unfold Hid at z7; have z8 := SZ_8.out; unfold Hid at z8; omega
               have VT6 : Hid (Row w6 (W.heap.size) 25 [.slice ua n uc, .slice va m vc, .int .i64 next]) := Rt_8.out.keep (K6.out.block _ ⟨Rt_8.out.lt, fun e => by have h := (HVr.out _ e.symm).2; omega⟩)
               have VX6 : Hid (Row w6 (w1.heap.size) 28 [.int .i64 x.1, .int .i64 x.2.1, .int .i64 x.2.2.1, .int .i64 x.2.2.2.1, .string x.2.2.2.2.1, .slice xa xn xc]) := Rx_8.out.keep (K6.out.block _ ⟨Rx_8.out.lt, fun e => by have h := (HVr.out _ e.symm).2; have h7 := HZ.out; have h8 := HB.out; unfold Hid at h7 h8; have z5 := SZ_5.out; unfold Hid at z5; have z6 := SZ_6.out; unfold Hid at z6; have z7 := SZ_7.out; unfold Hid at z7; have z8 := SZ_8.out; unfold Hid at z8; omega⟩)
               have S3 : w6.cell? ⟨W.heap.size, 0, none⟩ = some (.slice ua n uc) ∧ w6.cell? ⟨W.heap.size, 2, none⟩ = some (.int .i64 next) ∧ w6.cell? ⟨w1.heap.size, 4, none⟩ = some (.string x.2.2.2.2.1) := ⟨VT6.out.cell (j := 0) rfl, VT6.out.cell (j := 2) rfl, VX6.out.cell (j := 4) rfl⟩
               clear ho6 g6 hown6
               try go_simp
               refine hK.out _ _ ?_ (fun hH => ?_)
               · try dsimp only
                 first | exact S4 | exact S3 | exact S2 | exact S1 | exact S0
               clear hK K
               refine tkM 12 _ rfl rfl ?_; simp only [sz, ss]
               refine r1L 13 rfl fun K hK => ?_
               · have p1 := VT6.out.cell (j := 1) rfl
                 have f1 := VT6.out.frozen 1
                 have VT7 : Hid (Row (w6.setCell ⟨W.heap.size, 1, none⟩ (.slice b6 (m + 1) d6)) (W.heap.size) 25 [.slice ua n uc, .slice b6 (m + 1) d6, .int .i64 next]) := VT6.out.set 1 _
                 have KX : Hid (Kept (· ≠ W.heap.size) w6 (w6.setCell ⟨W.heap.size, 1, none⟩ (.slice b6 (m + 1) d6))) := (Kept.refl _ w6).setCell (p := ⟨W.heap.size, 1, none⟩) (fun h => h rfl) _
                 have S4 : (w6.setCell ⟨W.heap.size, 1, none⟩ (.slice b6 (m + 1) d6)).cell? ⟨W.heap.size, 0, none⟩ = some (.slice ua n uc) ∧ (w6.setCell ⟨W.heap.size, 1, none⟩ (.slice b6 (m + 1) d6)).cell? ⟨W.heap.size, 2, none⟩ = some (.int .i64 next) ∧ (w6.setCell ⟨W.heap.size, 1, none⟩ (.slice b6 (m + 1) d6)).cell? ⟨w1.heap.size, 4, none⟩ = some (.string x.2.2.2.2.1) := ⟨VT7.out.cell (j := 0) rfl, VT7.out.cell (j := 2) rfl, (VX6.out.keep (KX.out.block _ (by have h7 := HZ.out; have h8 := HB.out; unfold Hid at h7 h8; have z5 := SZ_5.out; unfold Hid at z5; have z6 := SZ_6.out; unfold Hid at z6; have z7 := SZ_7.out; unfold Hid at z7; have z8 := SZ_8.out; unfold Hid at z8; show w1.heap.size ≠ W.heap.size; omega))).cell (j := 4) rfl⟩
                 go_simp
                 clear p1 f1
                 refine hK.out _ _ ?_ (fun hH => ?_)
                 · try dsimp only
                   first | exact S4 | exact S3 | exact S2 | exact S1 | exact S0
                 clear hK K
                 refine wpAnyH_done (by kernel_rfl) ?_ _
                 clear hH S4 S3 S2 S1
                 go_wp2_with fail
                 go_meet
                 exact ⟨b6, d6, VT7, HO6.out.keepK KX.out (fun q hq => by have h2 := hq.2; have h7 := HZ.out; have h8 := HB.out; unfold Hid at h7 h8; have z5 := SZ_5.out; unfold Hid at z5; have z6 := SZ_6.out; unfold Hid at z6; have z7 := SZ_7.out; unfold Hid at z7; have z8 := SZ_8.out; unfold Hid at z8; show q ≠ W.heap.size; omega) (fun q hq => by have h := HR6.out q hq; have h7 := HZ.out; have h8 := HB.out; unfold Hid at h7 h8; have z5 := SZ_5.out; unfold Hid at z5; have z6 := SZ_6.out; unfold Hid at z6; have z7 := SZ_7.out; unfold Hid at z7; have z8 := SZ_8.out; unfold Hid at z8; show q ≠ W.heap.size; omega), HR6, (K6.out.mono (fun q hq => ⟨hq.1, hq.2.2⟩)).trans (KX.out.mono (fun q hq => hq.2.1))⟩
         exact rnL
       exact rnL
      clear S0 HSee
      clear qt0 qt2 qx0 qx1 qx2 qx3 qx4 qx5 pp8 pf8 hs8
      obtain ⟨b6, d6, RT, OM6, HR6, HK⟩ := hcut
      obtain ⟨w9, hw9⟩ : ∃ v, v = wc := ⟨_, rfl⟩
      subst hw9
      have Rt_9 : Hid _ := RT
      have Rx_9 : Hid (Row w9 (w1.heap.size) 28 [.int .i64 x.1, .int .i64 x.2.1, .int .i64 x.2.2.1, .int .i64 x.2.2.2.1, .string x.2.2.2.2.1, .slice xa xn xc]) := Rx_8.out.keep (HK.out.block _ ⟨Rx_8.out.lt, by have h7 := HZ.out; have h8 := HB.out; unfold Hid at h7 h8; have z5 := SZ_5.out; unfold Hid at z5; have z6 := SZ_6.out; unfold Hid at z6; have z7 := SZ_7.out; unfold Hid at z7; have z8 := SZ_8.out; unfold Hid at z8; show w1.heap.size ≠ W.heap.size; omega, fun e => by have h := (HVr.out _ e.symm).2; have h7 := HZ.out; have h8 := HB.out; unfold Hid at h7 h8; have z5 := SZ_5.out; unfold Hid at z5; have z6 := SZ_6.out; unfold Hid at z6; have z7 := SZ_7.out; unfold Hid at z7; have z8 := SZ_8.out; unfold Hid at z8; omega⟩)
      have Rp_9 : Hid (Row w9 (w2.heap.size) 25 [.slice none 0 0, .slice none 0 0, .int .i64 0]) := Rp_8.out.keep (HK.out.block _ ⟨Rp_8.out.lt, by have h7 := HZ.out; have h8 := HB.out; unfold Hid at h7 h8; have z5 := SZ_5.out; unfold Hid at z5; have z6 := SZ_6.out; unfold Hid at z6; have z7 := SZ_7.out; unfold Hid at z7; have z8 := SZ_8.out; unfold Hid at z8; show w2.heap.size ≠ W.heap.size; omega, fun e => by have h := (HVr.out _ e.symm).2; have h7 := HZ.out; have h8 := HB.out; unfold Hid at h7 h8; have z5 := SZ_5.out; unfold Hid at z5; have z6 := SZ_6.out; unfold Hid at z6; have z7 := SZ_7.out; unfold Hid at z7; have z8 := SZ_8.out; unfold Hid at z8; omega⟩)
      have Rq_9 : Hid (Row w9 (w3.heap.size) 43 [.int .i64 0, .slice none 0 0, .int .i64 0, .slice none 0 0, .int .i64 0]) := Rq_8.out.keep (HK.out.block _ ⟨Rq_8.out.lt, by have h7 := HZ.out; have h8 := HB.out; unfold Hid at h7 h8; have z5 := SZ_5.out; unfold Hid at z5; have z6 := SZ_6.out; unfold Hid at z6; have z7 := SZ_7.out; unfold Hid at z7; have z8 := SZ_8.out; unfold Hid at z8; show w3.heap.size ≠ W.heap.size; omega, fun e => by have h := (HVr.out _ e.symm).2; have h7 := HZ.out; have h8 := HB.out; unfold Hid at h7 h8; have z5 := SZ_5.out; unfold Hid at z5; have z6 := SZ_6.out; unfold Hid at z6; have z7 := SZ_7.out; unfold Hid at z7; have z8 := SZ_8.out; unfold Hid at z8; omega⟩)
      have Rr_9 : Hid (Row w9 (w4.heap.size) 43 [.int .i64 0, .slice none 0 0, .int .i64 next, .slice none 0 0, .int .i64 0]) := Rr_8.out.keep (HK.out.block _ ⟨Rr_8.out.lt, by have h7 := HZ.out; have h8 := HB.out; unfold Hid at h7 h8; have z5 := SZ_5.out; unfold Hid at z5; have z6 := SZ_6.out; unfold Hid at z6; have z7 := SZ_7.out; unfold Hid at z7; have z8 := SZ_8.out; unfold Hid at z8; show w4.heap.size ≠ W.heap.size; omega, fun e => by have h := (HVr.out _ e.symm).2; have h7 := HZ.out; have h8 := HB.out; unfold Hid at h7 h8; have z5 := SZ_5.out; unfold Hid at z5; have z6 := SZ_6.out; unfold Hid at z6; have z7 := SZ_7.out; unfold Hid at z7; have z8 := SZ_8.out; unfold Hid at z8; omega⟩)
      have Sn_9 : Hid (rSectors.rd w9 (fun q => base ≤ q ∧ q < hi) [.slice ua n uc] (s.1)) := Rep.kept HNow.out HK.out (fun q hq hl => ⟨hl, by have h2 := hq.2; have h7 := HZ.out; have h8 := HB.out; unfold Hid at h7 h8; have z5 := SZ_5.out; unfold Hid at z5; have z6 := SZ_6.out; unfold Hid at z6; have z7 := SZ_7.out; unfold Hid at z7; have z8 := SZ_8.out; unfold Hid at z8; show q ≠ W.heap.size; omega, fun e => by have h := (HVr.out _ e.symm).1; have h2 := hq.2; omega⟩)
      have Uv_9 : Hid (rSnps.rd w9 (fun q => hi ≤ q ∧ (q < W.heap.size ∨ w5.heap.size ≤ q)) [.slice b6 (m + 1) d6] (s.2.1 ++ [(next, x.2.2.2.2.1, s.1)])) := OwnsQ.rdQ (hs := by decide) OM6.out (by rw [List.length_append, HLm.out]; rfl) (by have h := HB.out.2.2.1; show (m + 1) * 48 ≤ _; omega) (fun k hk => ⟨(OM6.out.row k hk).1, HR6.out k hk⟩)
      have B_9 : Hid (Below base W w9) := Kept.toBelow ((Kept.below B_8.out).trans (HK.out.mono (fun q hq => by have hq2 : q < base := hq; have h1 := B_8.out.size; have h7 := HZ.out; have h8 := HB.out; unfold Hid at h7 h8; have z5 := SZ_5.out; unfold Hid at z5; have z6 := SZ_6.out; unfold Hid at z6; have z7 := SZ_7.out; unfold Hid at z7; have z8 := SZ_8.out; unfold Hid at z8; exact ⟨by omega, by show q ≠ W.heap.size; omega, fun e => by have h := (HVr.out _ e.symm).1; omega⟩)))
      have SZ_9 : Hid (w5.heap.size ≤ w9.heap.size) := Nat.le_trans SZ_8.out HK.out.size
      clear HK RT OM6 HR6 HNow B_8 Rt_8 Rx_8 Rp_8 Rq_8 Rr_8 Ds_8 Yd_8 Jn_8 Mv_8 Us_8
      have qt0 := Rt_9.out.cell (j := 0) rfl
      have qt1 := Rt_9.out.cell (j := 1) rfl
      have qt2 := Rt_9.out.cell (j := 2) rfl
      have pp10 := Rt_9.out.cell (j := 2) rfl
      have pf10 := Rt_9.out.frozen 2
      obtain ⟨w10, hs10⟩ : ∃ v, w9.setCell ⟨W.heap.size, 2, none⟩ (.int .i64 (next + 1)) = v := ⟨_, rfl⟩
      have K10 : Hid (Kept (· ≠ W.heap.size) w9 w10) := by rw [← hs10]; exact (Kept.refl _ w9).setCell (p := ⟨W.heap.size, 2, none⟩) (fun h => h rfl) _
      have Rt_10 : Hid (Row w10 (W.heap.size) 25 [.slice ua n uc, .slice b6 (m + 1) d6, .int .i64 (next + 1)]) := by rw [← hs10]; exact Rt_9.out.set 2 _
      have Rx_10 : Hid (Row w10 (w1.heap.size) 28 [.int .i64 x.1, .int .i64 x.2.1, .int .i64 x.2.2.1, .int .i64 x.2.2.2.1, .string x.2.2.2.2.1, .slice xa xn xc]) := Rx_9.out.keep (K10.out.block _ (by have h7 := HZ.out; have h8 := HB.out; unfold Hid at h7 h8; have z5 := SZ_5.out; unfold Hid at z5; have z6 := SZ_6.out; unfold Hid at z6; have z7 := SZ_7.out; unfold Hid at z7; have z8 := SZ_8.out; unfold Hid at z8; have z9 := SZ_9.out; unfold Hid at z9; show w1.heap.size ≠ W.heap.size; omega))
      have Rp_10 : Hid (Row w10 (w2.heap.size) 25 [.slice none 0 0, .slice none 0 0, .int .i64 0]) := Rp_9.out.keep (K10.out.block _ (by have h7 := HZ.out; have h8 := HB.out; unfold Hid at h7 h8; have z5 := SZ_5.out; unfold Hid at z5; have z6 := SZ_6.out; unfold Hid at z6; have z7 := SZ_7.out; unfold Hid at z7; have z8 := SZ_8.out; unfold Hid at z8; have z9 := SZ_9.out; unfold Hid at z9; show w2.heap.size ≠ W.heap.size; omega))
      have Rq_10 : Hid (Row w10 (w3.heap.size) 43 [.int .i64 0, .slice none 0 0, .int .i64 0, .slice none 0 0, .int .i64 0]) := Rq_9.out.keep (K10.out.block _ (by have h7 := HZ.out; have h8 := HB.out; unfold Hid at h7 h8; have z5 := SZ_5.out; unfold Hid at z5; have z6 := SZ_6.out; unfold Hid at z6; have z7 := SZ_7.out; unfold Hid at z7; have z8 := SZ_8.out; unfold Hid at z8; have z9 := SZ_9.out; unfold Hid at z9; show w3.heap.size ≠ W.heap.size; omega))
      have Rr_10 : Hid (Row w10 (w4.heap.size) 43 [.int .i64 0, .slice none 0 0, .int .i64 next, .slice none 0 0, .int .i64 0]) := Rr_9.out.keep (K10.out.block _ (by have h7 := HZ.out; have h8 := HB.out; unfold Hid at h7 h8; have z5 := SZ_5.out; unfold Hid at z5; have z6 := SZ_6.out; unfold Hid at z6; have z7 := SZ_7.out; unfold Hid at z7; have z8 := SZ_8.out; unfold Hid at z8; have z9 := SZ_9.out; unfold Hid at z9; show w4.heap.size ≠ W.heap.size; omega))
      have Sn_10 : Hid (rSectors.rd w10 (fun q => base ≤ q ∧ q < hi) [.slice ua n uc] (s.1)) := Rep.kept Sn_9.out K10.out (fun q hq hl => by have h7 := HZ.out; have h8 := HB.out; unfold Hid at h7 h8; have z5 := SZ_5.out; unfold Hid at z5; have z6 := SZ_6.out; unfold Hid at z6; have z7 := SZ_7.out; unfold Hid at z7; have z8 := SZ_8.out; unfold Hid at z8; have z9 := SZ_9.out; unfold Hid at z9; have h1 := hq.2; show q ≠ W.heap.size; omega)
      have Uv_10 : Hid (rSnps.rd w10 (fun q => hi ≤ q ∧ (q < W.heap.size ∨ w5.heap.size ≤ q)) [.slice b6 (m + 1) d6] (s.2.1 ++ [(next, x.2.2.2.2.1, s.1)])) := Rep.kept Uv_9.out K10.out (fun q hq hl => by have h7 := HZ.out; have h8 := HB.out; unfold Hid at h7 h8; have z5 := SZ_5.out; unfold Hid at z5; have z6 := SZ_6.out; unfold Hid at z6; have z7 := SZ_7.out; unfold Hid at z7; have z8 := SZ_8.out; unfold Hid at z8; have z9 := SZ_9.out; unfold Hid at z9; have h1 := hq.2; show q ≠ W.heap.size; omega)
      have B_10 : Hid (Below base W w10) := Kept.belowOf B_9.out K10.out (by have h7 := HZ.out; have h8 := HB.out; unfold Hid at h7 h8; have z5 := SZ_5.out; unfold Hid at z5; have z6 := SZ_6.out; unfold Hid at z6; have z7 := SZ_7.out; unfold Hid at z7; have z8 := SZ_8.out; unfold Hid at z8; have z9 := SZ_9.out; unfold Hid at z9; omega)
      have SZ_10 : Hid (w5.heap.size ≤ w10.heap.size) := Nat.le_trans SZ_9.out K10.out.size
      clear Rt_9 Rx_9 Rp_9 Rq_9 Rr_9 Sn_9 Uv_9
      have Dz_10 : Hid (rSta.rd w10 (fun q => base ≤ q ∧ (q < W.heap.size ∨ w5.heap.size ≤ q)) [.slice ua n uc, .slice b6 (m + 1) d6, .int .i64 (next + 1)] ((s.1, s.2.1 ++ [(next, x.2.2.2.2.1, s.1)], next + 1))) := q2Q (s := (s.1, s.2.1 ++ [(next, x.2.2.2.2.1, s.1)], next + 1)) (rSectors.weaken Sn_10.out (fun q hq _ => by have h7 := HZ.out; have h8 := HB.out; unfold Hid at h7 h8; have z5 := SZ_5.out; unfold Hid at z5; have z6 := SZ_6.out; unfold Hid at z6; have z7 := SZ_7.out; unfold Hid at z7; have z8 := SZ_8.out; unfold Hid at z8; have z9 := SZ_9.out; unfold Hid at z9; have z10 := SZ_10.out; unfold Hid at z10; have h1 := hq.1; have h2 := hq.2; exact ⟨by omega, .inl (by omega)⟩)) (rSnps.weaken Uv_10.out (fun q hq _ => by have h7 := HZ.out; have h8 := HB.out; unfold Hid at h7 h8; have z5 := SZ_5.out; unfold Hid at z5; have z6 := SZ_6.out; unfold Hid at z6; have z7 := SZ_7.out; unfold Hid at z7; have z8 := SZ_8.out; unfold Hid at z8; have z9 := SZ_9.out; unfold Hid at z9; have z10 := SZ_10.out; unfold Hid at z10; have h1 := hq.1; exact ⟨by omega, hq.2⟩)) (by have h1 := HI.out.2; show -9223372036854775808 ≤ next + 1 ∧ next + 1 ≤ 9223372036854775807; omega)
      have HcS : Hid (Mo.chgS s x = (s.1, s.2.1 ++ [(next, x.2.2.2.2.1, s.1)], next + 1)) := by unfold Hid Mo.chgS Mo.what; rw [HwK.out, ← HNx.out]; rfl
      have HcI : Hid (Mo.chgI s x = next) := by unfold Hid Mo.chgI Mo.what; rw [HwK.out]; exact HNx.out
      have HcD : Hid (Mo.chgD s x = []) := by unfold Hid Mo.chgD Mo.what; rw [HwK.out]; rfl
      have HcL : Hid (Mo.chgL s x = []) := by unfold Hid Mo.chgL Mo.what; rw [HwK.out]; rfl
      have HSeeT : Hid (∀ w', Kept (fun q => q ≠ w2.heap.size ∧ q ≠ w3.heap.size) w10 w' → w'.cell? ⟨W.heap.size, 0, none⟩ = some (.slice ua n uc) ∧ w'.cell? ⟨W.heap.size, 1, none⟩ = some (.slice b6 (m + 1) d6) ∧ w'.cell? ⟨W.heap.size, 2, none⟩ = some (.int .i64 (next + 1)) ∧ w'.cell? ⟨w4.heap.size, 0, none⟩ = some (.int .i64 0) ∧ w'.cell? ⟨w4.heap.size, 1, none⟩ = some (.slice none 0 0) ∧ w'.cell? ⟨w4.heap.size, 2, none⟩ = some (.int .i64 next) ∧ w'.cell? ⟨w4.heap.size, 3, none⟩ = some (.slice none 0 0) ∧ w'.cell? ⟨w4.heap.size, 4, none⟩ = some (.int .i64 0)) := fun w' hk => ⟨hk.cell (p := ⟨W.heap.size, 0, none⟩) (by have h7 := HZ.out; have h8 := HB.out; unfold Hid at h7 h8; have z5 := SZ_5.out; unfold Hid at z5; have z6 := SZ_6.out; unfold Hid at z6; have z7 := SZ_7.out; unfold Hid at z7; have z8 := SZ_8.out; unfold Hid at z8; have z9 := SZ_9.out; unfold Hid at z9; have z10 := SZ_10.out; unfold Hid at z10; exact ⟨by show W.heap.size ≠ w2.heap.size; omega, by show W.heap.size ≠ w3.heap.size; omega⟩) (Rt_10.out.cell (j := 0) rfl), hk.cell (p := ⟨W.heap.size, 1, none⟩) (by have h7 := HZ.out; have h8 := HB.out; unfold Hid at h7 h8; have z5 := SZ_5.out; unfold Hid at z5; have z6 := SZ_6.out; unfold Hid at z6; have z7 := SZ_7.out; unfold Hid at z7; have z8 := SZ_8.out; unfold Hid at z8; have z9 := SZ_9.out; unfold Hid at z9; have z10 := SZ_10.out; unfold Hid at z10; exact ⟨by show W.heap.size ≠ w2.heap.size; omega, by show W.heap.size ≠ w3.heap.size; omega⟩) (Rt_10.out.cell (j := 1) rfl), hk.cell (p := ⟨W.heap.size, 2, none⟩) (by have h7 := HZ.out; have h8 := HB.out; unfold Hid at h7 h8; have z5 := SZ_5.out; unfold Hid at z5; have z6 := SZ_6.out; unfold Hid at z6; have z7 := SZ_7.out; unfold Hid at z7; have z8 := SZ_8.out; unfold Hid at z8; have z9 := SZ_9.out; unfold Hid at z9; have z10 := SZ_10.out; unfold Hid at z10; exact ⟨by show W.heap.size ≠ w2.heap.size; omega, by show W.heap.size ≠ w3.heap.size; omega⟩) (Rt_10.out.cell (j := 2) rfl), hk.cell (p := ⟨w4.heap.size, 0, none⟩) (by have h7 := HZ.out; have h8 := HB.out; unfold Hid at h7 h8; have z5 := SZ_5.out; unfold Hid at z5; have z6 := SZ_6.out; unfold Hid at z6; have z7 := SZ_7.out; unfold Hid at z7; have z8 := SZ_8.out; unfold Hid at z8; have z9 := SZ_9.out; unfold Hid at z9; have z10 := SZ_10.out; unfold Hid at z10; exact ⟨by show w4.heap.size ≠ w2.heap.size; omega, by show w4.heap.size ≠ w3.heap.size; omega⟩) (Rr_10.out.cell (j := 0) rfl), hk.cell (p := ⟨w4.heap.size, 1, none⟩) (by have h7 := HZ.out; have h8 := HB.out; unfold Hid at h7 h8; have z5 := SZ_5.out; unfold Hid at z5; have z6 := SZ_6.out; unfold Hid at z6; have z7 := SZ_7.out; unfold Hid at z7; have z8 := SZ_8.out; unfold Hid at z8; have z9 := SZ_9.out; unfold Hid at z9; have z10 := SZ_10.out; unfold Hid at z10; exact ⟨by show w4.heap.size ≠ w2.heap.size; omega, by show w4.heap.size ≠ w3.heap.size; omega⟩) (Rr_10.out.cell (j := 1) rfl), hk.cell (p := ⟨w4.heap.size, 2, none⟩) (by have h7 := HZ.out; have h8 := HB.out; unfold Hid at h7 h8; have z5 := SZ_5.out; unfold Hid at z5; have z6 := SZ_6.out; unfold Hid at z6; have z7 := SZ_7.out; unfold Hid at z7; have z8 := SZ_8.out; unfold Hid at z8; have z9 := SZ_9.out; unfold Hid at z9; have z10 := SZ_10.out; unfold Hid at z10; exact ⟨by show w4.heap.size ≠ w2.heap.size; omega, by show w4.heap.size ≠ w3.heap.size; omega⟩) (Rr_10.out.cell (j := 2) rfl), hk.cell (p := ⟨w4.heap.size, 3, none⟩) (by have h7 := HZ.out; have h8 := HB.out; unfold Hid at h7 h8; have z5 := SZ_5.out; unfold Hid at z5; have z6 := SZ_6.out; unfold Hid at z6; have z7 := SZ_7.out; unfold Hid at z7; have z8 := SZ_8.out; unfold Hid at z8; have z9 := SZ_9.out; unfold Hid at z9; have z10 := SZ_10.out; unfold Hid at z10; exact ⟨by show w4.heap.size ≠ w2.heap.size; omega, by show w4.heap.size ≠ w3.heap.size; omega⟩) (Rr_10.out.cell (j := 3) rfl), hk.cell (p := ⟨w4.heap.size, 4, none⟩) (by have h7 := HZ.out; have h8 := HB.out; unfold Hid at h7 h8; have z5 := SZ_5.out; unfold Hid at z5; have z6 := SZ_6.out; unfold Hid at z6; have z7 := SZ_7.out; unfold Hid at z7; have z8 := SZ_8.out; unfold Hid at z8; have z9 := SZ_9.out; unfold Hid at z9; have z10 := SZ_10.out; unfold Hid at z10; exact ⟨by show w4.heap.size ≠ w2.heap.size; omega, by show w4.heap.size ≠ w3.heap.size; omega⟩) (Rr_10.out.cell (j := 4) rfl)⟩
      have S0 := HSeeT.out _ (Kept.refl _ w10).drew
      go_wp2_with fail
      refine wp_region_held_drew (S := (fun w' : World => w'.cell? ⟨W.heap.size, 0, none⟩ = some (.slice ua n uc) ∧ w'.cell? ⟨W.heap.size, 1, none⟩ = some (.slice b6 (m + 1) d6) ∧ w'.cell? ⟨W.heap.size, 2, none⟩ = some (.int .i64 (next + 1)) ∧ w'.cell? ⟨w4.heap.size, 0, none⟩ = some (.int .i64 0) ∧ w'.cell? ⟨w4.heap.size, 1, none⟩ = some (.slice none 0 0) ∧ w'.cell? ⟨w4.heap.size, 2, none⟩ = some (.int .i64 next) ∧ w'.cell? ⟨w4.heap.size, 3, none⟩ = some (.slice none 0 0) ∧ w'.cell? ⟨w4.heap.size, 4, none⟩ = some (.int .i64 0))) (by kernel_rfl) (S0) (fun hH => ?_)
      refine tkM 0 _ rfl rfl ?_; simp only [sz, ss]
      refine tkM 1 _ rfl rfl ?_; simp only [sz, ss]
      refine r1L 2 rfl fun K hK => ?_
      · have PA : Hid (Row w10 (w2.heap.size) 25 [.slice none 0 0, .slice none 0 0, .int .i64 0]) := Rp_10.out
        have sA0 := PA.out.cell (j := 0) rfl
        have uA0 := PA.out.frozen 0
        have sA1 := PA.out.cell (j := 1) rfl
        have uA1 := PA.out.frozen 1
        have sA2 := PA.out.cell (j := 2) rfl
        have uA2 := PA.out.frozen 2
        obtain ⟨wPA, hwPA, VPA, KPA⟩ := PA.out.whole3 (.slice ua n uc) (.slice b6 (m + 1) d6) (.int .i64 (next + 1))
        have HVPA : Hid _ := VPA
        have KKA : Hid (Kept (fun q => q ≠ w2.heap.size ∧ q ≠ w3.heap.size) w10 wPA) := KPA.mono (fun q hq => hq.1)
        have SPA := HSeeT.out _ KKA.out.drew
        clear VPA
        go_simp
        refine hK.out _ _ ?_ (fun hH => ?_)
        · try dsimp only
          first | exact SPA | exact SPB | exact S0
        clear hK K
        refine r1L 3 rfl fun K hK => ?_
        · have PB : Hid (Row wPA (w3.heap.size) 43 [.int .i64 0, .slice none 0 0, .int .i64 0, .slice none 0 0, .int .i64 0]) := Rq_10.out.keep (KPA.block _ (by have h7 := HZ.out; have h8 := HB.out; unfold Hid at h7 h8; have z5 := SZ_5.out; unfold Hid at z5; have z6 := SZ_6.out; unfold Hid at z6; have z7 := SZ_7.out; unfold Hid at z7; have z8 := SZ_8.out; unfold Hid at z8; have z9 := SZ_9.out; unfold Hid at z9; have z10 := SZ_10.out; unfold Hid at z10; show w3.heap.size ≠ w2.heap.size; omega))
          have sB0 := PB.out.cell (j := 0) rfl
          have uB0 := PB.out.frozen 0
          have sB1 := PB.out.cell (j := 1) rfl
          have uB1 := PB.out.frozen 1
          have sB2 := PB.out.cell (j := 2) rfl
          have uB2 := PB.out.frozen 2
          have sB3 := PB.out.cell (j := 3) rfl
          have uB3 := PB.out.frozen 3
          have sB4 := PB.out.cell (j := 4) rfl
          have uB4 := PB.out.frozen 4
          obtain ⟨wPB, hwPB, VPB, KPB⟩ := PB.out.whole5 (.int .i64 0) (.slice none 0 0) (.int .i64 next) (.slice none 0 0) (.int .i64 0)
          have HVPB : Hid _ := VPB
          have KKB : Hid (Kept (fun q => q ≠ w2.heap.size ∧ q ≠ w3.heap.size) w10 wPB) := KKA.out.trans (KPB.mono (fun q hq => hq.2))
          have SPB := HSeeT.out _ KKB.out.drew
          clear VPB
          go_simp
          refine hK.out _ _ ?_ (fun hH => ?_)
          · try dsimp only
            exact SPB
          clear hK K
          refine wpAnyH_done (by kernel_rfl) ?_ _
          have VA9 : Hid (Row wPB.drew (w2.heap.size) 25 [.slice ua n uc, .slice b6 (m + 1) d6, .int .i64 (next + 1)]) := (HVPA.out.keep (KPB.block _ (by have h7 := HZ.out; have h8 := HB.out; unfold Hid at h7 h8; have z5 := SZ_5.out; unfold Hid at z5; have z6 := SZ_6.out; unfold Hid at z6; have z7 := SZ_7.out; unfold Hid at z7; have z8 := SZ_8.out; unfold Hid at z8; have z9 := SZ_9.out; unfold Hid at z9; have z10 := SZ_10.out; unfold Hid at z10; show w2.heap.size ≠ w3.heap.size; omega))).keep rfl
          have VB9 : Hid (Row wPB.drew _ _ _) := HVPB.out.keep rfl
          clear hH SPA SPB S0
          go_wp2
          refine bodyPost_ret (q0x rfl rfl rfl VA9.out VB9.out Try.underlying25 rfl (by kernel_rfl) Try.underlying43 rfl (by kernel_rfl)) rfl ⟨_, _, _, _, _, _, _, _, _, _, _, _, _, by rw [HcI.out], ?_, ?_, ?_, ?_⟩
          · rw [HcS.out]; exact rSta.weaken (Rep.kept Dz_10.out KKB.out.drew (fun q hq hl => by have h7 := HZ.out; have h8 := HB.out; unfold Hid at h7 h8; have z5 := SZ_5.out; unfold Hid at z5; have z6 := SZ_6.out; unfold Hid at z6; have z7 := SZ_7.out; unfold Hid at z7; have z8 := SZ_8.out; unfold Hid at z8; have z9 := SZ_9.out; unfold Hid at z9; have z10 := SZ_10.out; unfold Hid at z10; have h1 := hq.1; have h2 := hq.2; exact ⟨by show q ≠ _; omega, by show q ≠ _; omega⟩)) (fun q hq hl => by have h7 := HZ.out; have h8 := HB.out; unfold Hid at h7 h8; have z5 := SZ_5.out; unfold Hid at z5; have z6 := SZ_6.out; unfold Hid at z6; have z7 := SZ_7.out; unfold Hid at z7; have z8 := SZ_8.out; unfold Hid at z8; have z9 := SZ_9.out; unfold Hid at z9; have z10 := SZ_10.out; unfold Hid at z10; have h1 := hq.1; show base ≤ q; omega)
          · rw [HcD.out]; exact q0j _ _ _ _ (fun _ => rfl)
          · rw [HcL.out]; exact q0Z _ _
          · exact Kept.toBelow ((Kept.below B_10.out).trans (KKB.out.drew.mono (fun q hq => by have h7 := HZ.out; have h8 := HB.out; unfold Hid at h7 h8; have z5 := SZ_5.out; unfold Hid at z5; have z6 := SZ_6.out; unfold Hid at z6; have z7 := SZ_7.out; unfold Hid at z7; have z8 := SZ_8.out; unfold Hid at z8; have z9 := SZ_9.out; unfold Hid at z9; have z10 := SZ_10.out; unfold Hid at z10; have h1 : q < base := hq; exact ⟨by show q ≠ _; omega, by show q ≠ _; omega⟩)))
    · skip
      have e1 : (idj != x.2.2.2.1) = true := bne_iff_ne.2 hid
      have HJ2 : Hid (∀ (i : Nat) (hi : i < s.2.1.length), i < j + 1 → s.2.1[i].1 ≠ x.2.2.2.1) := fun i hi h => by
       by_cases hij : i = j
       · subst hij; rw [← HIj.out]; exact hid
       · exact HJ.out i hi (by omega)
      clear hva
      go_wp2_with fail
      go_quiet (fail)
      go_wp2
      go_roundw
      case rel => exact ⟨j + 1, by omega, by go_num, HJ2, below_drewN BL.out _⟩
      case measure => simp [intOf]; omega
  · obtain rfl : m = j := by omega
    have hjz : ¬ (m : Int) < (m : Int) := by omega
    have HNone : Hid (∀ y ∈ s.2.1, y.1 ≠ x.2.2.2.1) := fun y hy => by obtain ⟨i, hi, rfl⟩ := List.mem_iff_getElem.1 hy; exact HJ.out i hi (by rw [← HLm.out]; exact hi)
    go_wp2_with fail
    go_quiet (fail)
    clear qt0 qt1 qt2 qx0 qx1 qx2 qx3 qx4 qx5
    obtain ⟨w11, hw11⟩ : ∃ v, v = w6.drewN nq := ⟨_, rfl⟩
    have bdr : Below w6.heap.size w6 w11 := by rw [hw11]; exact below_drewN (Below.refl _ _) _
    rw [← hw11]
    clear hw11
    have Rt_11 : Hid _ := Rt_6.out.below (bdr)
    have Rx_11 : Hid _ := Rx_6.out.below (bdr)
    have Rp_11 : Hid _ := Rp_6.out.below (bdr)
    have Rq_11 : Hid _ := Rq_6.out.below (bdr)
    have Rr_11 : Hid _ := Rr_6.out.below (bdr)
    have Ds_11 : Hid (rSta.rd w11 (fun q => base ≤ q ∧ q < W.heap.size) [.slice ua n uc, .slice va m vc, .int .i64 next] (s)) := Rep.below Ds_6.out (bdr)
    have Yd_11 : Hid (rBytes.rd w11 (fun q => q < base ∧ q < W.heap.size) [.slice xa xn xc] (x.2.2.2.2.2)) := Rep.below Yd_6.out (bdr)
    have Jn_11 : Hid (OwnsQ rBytes 26 w11 base (fun q => base ≤ q ∧ q < hi) (.slice ua n uc) (s.1)) := Jn_6.out.below (bdr)
    have Mv_11 : Hid (OwnsQ rSnp 67 w11 hi (fun q => hi ≤ q ∧ (q < W.heap.size ∨ w5.heap.size ≤ q)) (.slice va m vc) (s.2.1)) := Mv_6.out.below (bdr)
    have Us_11 : Hid (rSnps.rd w11 (fun q => hi ≤ q ∧ q < W.heap.size) [.slice va m vc] (s.2.1)) := Rep.below Us_6.out (bdr)
    have B_11 : Hid (Below base W w11) := B_6.out.trans ((bdr).mono (by have h1 := B_6.out.size; have h7 := HZ.out; have h8 := HB.out; unfold Hid at h7 h8; have z5 := SZ_5.out; unfold Hid at z5; have z6 := SZ_6.out; unfold Hid at z6; omega))
    have SZ_11 : Hid (w5.heap.size ≤ w11.heap.size) := Nat.le_trans SZ_6.out (bdr).size
    clear Rt_6 Rx_6 Rp_6 Rq_6 Rr_6 Ds_6 Yd_6 Jn_6 Mv_6 Us_6
    clear bdr
    have hk7 : x.1 = 4 := HwK.out
    have qt0 := Rt_11.out.cell (j := 0) rfl
    have qt1 := Rt_11.out.cell (j := 1) rfl
    have qt2 := Rt_11.out.cell (j := 2) rfl
    have qx0 := Rx_11.out.cell (j := 0) rfl
    have qx1 := Rx_11.out.cell (j := 1) rfl
    have qx2 := Rx_11.out.cell (j := 2) rfl
    have qx3 := Rx_11.out.cell (j := 3) rfl
    have qx4 := Rx_11.out.cell (j := 4) rfl
    have qx5 := Rx_11.out.cell (j := 5) rfl
    rw [hk7] at qx0
    clear hk7
    have hnx1 : 1 ≤ next := HI.out.2.1
    have hnx2 : next ≤ 255 := HI.out.2.2
    have pp12 := Rr_11.out.cell (j := 2) rfl
    have pf12 := Rr_11.out.frozen 2
    obtain ⟨w12, hs12⟩ : ∃ v, w11.setCell ⟨w4.heap.size, 2, none⟩ (.int .i64 next) = v := ⟨_, rfl⟩
    have K12 : Hid (Kept (· ≠ w4.heap.size) w11 w12) := by rw [← hs12]; exact (Kept.refl _ w11).setCell (p := ⟨w4.heap.size, 2, none⟩) (fun h => h rfl) _
    have Rt_12 : Hid (Row w12 (W.heap.size) 25 [.slice ua n uc, .slice va m vc, .int .i64 next]) := Rt_11.out.keep (K12.out.block _ (by have h7 := HZ.out; have h8 := HB.out; unfold Hid at h7 h8; have z5 := SZ_5.out; unfold Hid at z5; have z6 := SZ_6.out; unfold Hid at z6; have z11 := SZ_11.out; unfold Hid at z11; show W.heap.size ≠ w4.heap.size; omega))
    have Rx_12 : Hid (Row w12 (w1.heap.size) 28 [.int .i64 x.1, .int .i64 x.2.1, .int .i64 x.2.2.1, .int .i64 x.2.2.2.1, .string x.2.2.2.2.1, .slice xa xn xc]) := Rx_11.out.keep (K12.out.block _ (by have h7 := HZ.out; have h8 := HB.out; unfold Hid at h7 h8; have z5 := SZ_5.out; unfold Hid at z5; have z6 := SZ_6.out; unfold Hid at z6; have z11 := SZ_11.out; unfold Hid at z11; show w1.heap.size ≠ w4.heap.size; omega))
    have Rp_12 : Hid (Row w12 (w2.heap.size) 25 [.slice none 0 0, .slice none 0 0, .int .i64 0]) := Rp_11.out.keep (K12.out.block _ (by have h7 := HZ.out; have h8 := HB.out; unfold Hid at h7 h8; have z5 := SZ_5.out; unfold Hid at z5; have z6 := SZ_6.out; unfold Hid at z6; have z11 := SZ_11.out; unfold Hid at z11; show w2.heap.size ≠ w4.heap.size; omega))
    have Rq_12 : Hid (Row w12 (w3.heap.size) 43 [.int .i64 0, .slice none 0 0, .int .i64 0, .slice none 0 0, .int .i64 0]) := Rq_11.out.keep (K12.out.block _ (by have h7 := HZ.out; have h8 := HB.out; unfold Hid at h7 h8; have z5 := SZ_5.out; unfold Hid at z5; have z6 := SZ_6.out; unfold Hid at z6; have z11 := SZ_11.out; unfold Hid at z11; show w3.heap.size ≠ w4.heap.size; omega))
    have Rr_12 : Hid (Row w12 (w4.heap.size) 43 [.int .i64 0, .slice none 0 0, .int .i64 next, .slice none 0 0, .int .i64 0]) := by rw [← hs12]; exact Rr_11.out.set 2 _
    have Ds_12 : Hid (rSta.rd w12 (fun q => base ≤ q ∧ q < W.heap.size) [.slice ua n uc, .slice va m vc, .int .i64 next] (s)) := Rep.kept Ds_11.out K12.out (fun q hq hl => by have h7 := HZ.out; have h8 := HB.out; unfold Hid at h7 h8; have z5 := SZ_5.out; unfold Hid at z5; have z6 := SZ_6.out; unfold Hid at z6; have z11 := SZ_11.out; unfold Hid at z11; have h1 := hq.2; show q ≠ w4.heap.size; omega)
    have Yd_12 : Hid (rBytes.rd w12 (fun q => q < base ∧ q < W.heap.size) [.slice xa xn xc] (x.2.2.2.2.2)) := Rep.kept Yd_11.out K12.out (fun q hq hl => by have h7 := HZ.out; have h8 := HB.out; unfold Hid at h7 h8; have z5 := SZ_5.out; unfold Hid at z5; have z6 := SZ_6.out; unfold Hid at z6; have z11 := SZ_11.out; unfold Hid at z11; have h1 := hq.2; show q ≠ w4.heap.size; omega)
    have Jn_12 : Hid (OwnsQ rBytes 26 w12 base (fun q => base ≤ q ∧ q < hi) (.slice ua n uc) (s.1)) := Jn_11.out.keepK K12.out (fun q hq => by have h7 := HZ.out; have h8 := HB.out; unfold Hid at h7 h8; have z5 := SZ_5.out; unfold Hid at z5; have z6 := SZ_6.out; unfold Hid at z6; have z11 := SZ_11.out; unfold Hid at z11; have h1 := hq.1; have h2 := hq.2; show q ≠ w4.heap.size; omega) (fun q hq => by have h7 := HZ.out; have h8 := HB.out; unfold Hid at h7 h8; have z5 := SZ_5.out; unfold Hid at z5; have z6 := SZ_6.out; unfold Hid at z6; have z11 := SZ_11.out; unfold Hid at z11; have h3 := HOR.out q hq; show q ≠ w4.heap.size; omega)
    have Mv_12 : Hid (OwnsQ rSnp 67 w12 hi (fun q => hi ≤ q ∧ (q < W.heap.size ∨ w5.heap.size ≤ q)) (.slice va m vc) (s.2.1)) := Mv_11.out.keepK K12.out (fun q hq => by have h7 := HZ.out; have h8 := HB.out; unfold Hid at h7 h8; have z5 := SZ_5.out; unfold Hid at z5; have z6 := SZ_6.out; unfold Hid at z6; have z11 := SZ_11.out; unfold Hid at z11; have h1 := hq.1; have h2 := hq.2; show q ≠ w4.heap.size; omega) (fun q hq => by have h7 := HZ.out; have h8 := HB.out; unfold Hid at h7 h8; have z5 := SZ_5.out; unfold Hid at z5; have z6 := SZ_6.out; unfold Hid at z6; have z11 := SZ_11.out; unfold Hid at z11; have h3 := HVr.out q hq; show q ≠ w4.heap.size; omega)
    have Us_12 : Hid (rSnps.rd w12 (fun q => hi ≤ q ∧ q < W.heap.size) [.slice va m vc] (s.2.1)) := Rep.kept Us_11.out K12.out (fun q hq hl => by have h7 := HZ.out; have h8 := HB.out; unfold Hid at h7 h8; have z5 := SZ_5.out; unfold Hid at z5; have z6 := SZ_6.out; unfold Hid at z6; have z11 := SZ_11.out; unfold Hid at z11; have h1 := hq.2; show q ≠ w4.heap.size; omega)
    have B_12 : Hid (Below base W w12) := Kept.belowOf B_11.out K12.out (by have h7 := HZ.out; have h8 := HB.out; unfold Hid at h7 h8; have z5 := SZ_5.out; unfold Hid at z5; have z6 := SZ_6.out; unfold Hid at z6; have z11 := SZ_11.out; unfold Hid at z11; omega)
    have SZ_12 : Hid (w5.heap.size ≤ w12.heap.size) := Nat.le_trans SZ_11.out K12.out.size
    clear Rt_11 Rx_11 Rp_11 Rq_11 Rr_11 Ds_11 Yd_11 Jn_11 Mv_11 Us_11
    have qt0 := Rt_12.out.cell (j := 0) rfl
    have qt1 := Rt_12.out.cell (j := 1) rfl
    have qt2 := Rt_12.out.cell (j := 2) rfl
    have qx0 := Rx_12.out.cell (j := 0) rfl
    have qx1 := Rx_12.out.cell (j := 1) rfl
    have qx2 := Rx_12.out.cell (j := 2) rfl
    have qx3 := Rx_12.out.cell (j := 3) rfl
    have qx4 := Rx_12.out.cell (j := 4) rfl
    have qx5 := Rx_12.out.cell (j := 5) rfl
    go_wp2_with fail
    have HNow : Hid (rSectors.rd w12 (fun q => base ≤ q ∧ q < hi) [.slice ua n uc] s.1) := OwnsQ.rdQ (hs := by decide) Jn_12.out HLn.out (by have h := HB.out.2.2.2; show n * 24 ≤ _; omega) (fun k hk => ⟨(Jn_12.out.row k hk).1, HOR.out k hk⟩)
    clear qt1
    have HSee : Hid (∀ w', Below w12.heap.size w12 w' → w'.cell? ⟨W.heap.size, 0, none⟩ = some (.slice ua n uc) ∧ w'.cell? ⟨W.heap.size, 2, none⟩ = some (.int .i64 next) ∧ w'.cell? ⟨w1.heap.size, 4, none⟩ = some (.string x.2.2.2.2.1)) := fun w' hb => ⟨(Rt_12.out.below hb).cell (j := 0) rfl, (Rt_12.out.below hb).cell (j := 2) rfl, (Rx_12.out.below hb).cell (j := 4) rfl⟩
    have S0 := HSee.out _ (Below.refl _ w12).drew
    go_cut [98] (fun _ wx => ∃ b6 d6, Hid (Row wx (W.heap.size) 25 [.slice ua n uc, .slice b6 (m + 1) d6, .int .i64 next]) ∧ Hid (OwnsQ rSnp 67 wx hi (fun q => hi ≤ q ∧ (q < W.heap.size ∨ w5.heap.size ≤ q)) (.slice b6 (m + 1) d6) (s.2.1 ++ [(next, x.2.2.2.2.1, s.1)])) ∧ Hid (∀ k, (Value.slice b6 (m + 1) d6).ownBlock = some k → k < W.heap.size ∨ w5.heap.size ≤ k) ∧ Hid (Kept (fun q => q < w12.heap.size ∧ q ≠ W.heap.size ∧ some q ≠ (Value.slice va m vc).ownBlock) w12 wx))
    case first =>
     refine wp_region_held_drew (S := (fun w' : World => w'.cell? ⟨W.heap.size, 0, none⟩ = some (.slice ua n uc) ∧ w'.cell? ⟨W.heap.size, 2, none⟩ = some (.int .i64 next) ∧ w'.cell? ⟨w1.heap.size, 4, none⟩ = some (.string x.2.2.2.2.1))) (by kernel_rfl) (S0) (fun hH => ?_)
     refine tkM 0 _ rfl rfl ?_; simp only [sz, ss]
     refine tkM 2 _ rfl rfl ?_; simp only [sz, ss]
     refine tkM 3 _ rfl rfl ?_; simp only [sz, ss]
     refine tkM 4 _ rfl rfl ?_; simp only [sz, ss]
     refine tkM 5 _ rfl rfl ?_; simp only [sz, ss]
     refine tkM 6 _ rfl rfl ?_; simp only [sz, ss]
     refine tkM 7 _ rfl rfl ?_; simp only [sz, ss]
     refine rdL [1, 8] ?_
     refine rcL (fun K hK => ?_) ?_
     · have p1 := Rt_12.out.cell (j := 1) rfl
       go_simp
       clear p1
       refine hK.out _ _ ?_ (fun hH => ?_)
       · try dsimp only
         first | exact S4 | exact S3 | exact S2 | exact S1 | exact S0
       clear hK K
       refine r1L 8 rfl fun K hK => ?_
       · go_simp
         go_at_call 52
         refine Calls.mono (q4Q w12.drew _ ua n uc s.1 (rSectors.keep HNow.out (fun _ _ _ => rfl))) ?_
         rintro e w50 ⟨g5, d5, rfl, hrd5, bd5⟩
         have B5 : Hid (Below w12.heap.size w12 w50) := (Below.refl _ w12).drew.trans bd5
         have HR5 : Hid (rSectors.rd w50 (fun q => w12.heap.size ≤ q) [.slice g5 n d5] s.1) := hrd5
         have S1 := HSee.out _ B5.out
         clear hrd5 bd5
         go_simp
         refine hK.out _ _ ?_ (fun hH => ?_)
         · try dsimp only
           first | exact S4 | exact S3 | exact S2 | exact S1 | exact S0
         clear hK K
         refine tkM 9 _ rfl rfl ?_; simp only [sz, ss]
         refine r1L 10 rfl fun K hK => ?_
         · go_simp
           have BA0 : Hid (Below w50.heap.size w50 (w50.alloc (.cells #[.int .i64 next, .string x.2.2.2.2.1, .slice g5 n d5] 67))) := (Below.refl _ _).alloc (Nat.le_refl _) _
           have BA : Hid _ := on B5.out BA0.out
           have S2 := HSee.out _ BA.out
           refine hK.out _ _ ?_ (fun hH => ?_)
           · try dsimp only
             first | exact S4 | exact S3 | exact S2 | exact S1 | exact S0
           clear hK K
           refine r1L 11 rfl fun K hK => ?_
           · refine q2q q3Z rfl (.tmp 88) (.tmp 97) rfl hi (fun q => hi ≤ q ∧ (q < W.heap.size ∨ w5.heap.size ≤ q)) (.slice va m vc) s.2.1 (by simp [Go.Act.eval]) (Mv_12.out.below BA.out) ⟨w50.heap.size, 0, none⟩ [.int .i64 next, .string x.2.2.2.2.1, .slice g5 n d5] (next, x.2.2.2.2.1, s.1) (by simp [Go.Act.eval]) (q3J w50 next x.2.2.2.2.1 _ _) ?_ ?_ ?_ ?_ ?_
             · exact rSnp.weaken (q4j HI.out.1 HIx.out.2.2.2.2 (Rep.below HR5.out BA0.out)) (fun q hq _ => ⟨by have h1 : w12.heap.size ≤ q := hq; have h7 := HZ.out; have h8 := HB.out; unfold Hid at h7 h8; have z5 := SZ_5.out; unfold Hid at z5; have z6 := SZ_6.out; unfold Hid at z6; have z11 := SZ_11.out; unfold Hid at z11; have z12 := SZ_12.out; unfold Hid at z12; exact ⟨by omega, .inr (by omega)⟩, fun e => by have h1 : w12.heap.size ≤ q := hq; have h3 := HVr.out q e; have h7 := HZ.out; have h8 := HB.out; unfold Hid at h7 h8; have z5 := SZ_5.out; unfold Hid at z5; have z6 := SZ_6.out; unfold Hid at z6; have z11 := SZ_11.out; unfold Hid at z11; have z12 := SZ_12.out; unfold Hid at z12; omega⟩)
             · rw [HLm.out]; have h := HB.out.2.2.1; show _ * 48 ≤ _; omega
             · rw [HLm.out]; have h := HB.out.2.2.1; unfold maxLen; omega
             · have h1 := BA.out.size; have h7 := HZ.out; have h8 := HB.out; unfold Hid at h7 h8; have z5 := SZ_5.out; unfold Hid at z5; have z6 := SZ_6.out; unfold Hid at z6; have z11 := SZ_11.out; unfold Hid at z11; have z12 := SZ_12.out; unfold Hid at z12; omega
             intro b6 d6 w6 ho6 g6 hown6
             rw [HLm.out] at ho6 hown6 ⊢
             have HO6 : Hid (OwnsQ rSnp 67 w6 hi (fun q => hi ≤ q ∧ (q < W.heap.size ∨ w5.heap.size ≤ q)) (.slice b6 (m + 1) d6) (s.2.1 ++ [(next, x.2.2.2.2.1, s.1)])) := ho6
             have K6 : Hid (Kept (fun q => q < w12.heap.size ∧ some q ≠ (Value.slice va m vc).ownBlock) w12 w6) := ((Kept.below BA.out).mono (fun q hq => hq.1)).grown g6 (fun q hq => Nat.lt_of_lt_of_le hq.1 BA.out.size) (fun q hq hs => hs.2 hq.symm)
             have HR6 : Hid (∀ k, (Value.slice b6 (m + 1) d6).ownBlock = some k → k < W.heap.size ∨ w5.heap.size ≤ k) := fun q hq => by
              rcases hown6 with h | h
              · rw [h] at hq; exact .inl (HVr.out q hq).2
              · rw [h] at hq; cases hq; right; have h1 := BA.out.size; have h7 := HZ.out; have h8 := HB.out; unfold Hid at h7 h8; have z5 := SZ_5.out; unfold Hid at z5; have z6 := SZ_6.out; unfold Hid at z6; have z11 := SZ_11.out; unfold Hid at z11; have z12 := SZ_12.out; unfold Hid at z12; omega
             have VT6 : Hid (Row w6 (W.heap.size) 25 [.slice ua n uc, .slice va m vc, .int .i64 next]) := Rt_12.out.keep (K6.out.block _ ⟨Rt_12.out.lt, fun e => by have h := (HVr.out _ e.symm).2; omega⟩)
             have VX6 : Hid (Row w6 (w1.heap.size) 28 [.int .i64 x.1, .int .i64 x.2.1, .int .i64 x.2.2.1, .int .i64 x.2.2.2.1, .string x.2.2.2.2.1, .slice xa xn xc]) := Rx_12.out.keep (K6.out.block _ ⟨Rx_12.out.lt, fun e => by have h := (HVr.out _ e.symm).2; have h7 := HZ.out; have h8 := HB.out; unfold Hid at h7 h8; have z5 := SZ_5.out; unfold Hid at z5; have z6 := SZ_6.out; unfold Hid at z6; have z11 := SZ_11.out; unfold Hid at z11; have z12 := SZ_12.out; unfold Hid at z12; omega⟩)
             have S3 : w6.cell? ⟨W.heap.size, 0, none⟩ = some (.slice ua n uc) ∧ w6.cell? ⟨W.heap.size, 2, none⟩ = some (.int .i64 next) ∧ w6.cell? ⟨w1.heap.size, 4, none⟩ = some (.string x.2.2.2.2.1) := ⟨VT6.out.cell (j := 0) rfl, VT6.out.cell (j := 2) rfl, VX6.out.cell (j := 4) rfl⟩
             clear ho6 g6 hown6
             try go_simp
             refine hK.out _ _ ?_ (fun hH => ?_)
             · try dsimp only
               first | exact S4 | exact S3 | exact S2 | exact S1 | exact S0
             clear hK K
             refine tkM 12 _ rfl rfl ?_; simp only [sz, ss]
             refine r1L 13 rfl fun K hK => ?_
             · have p1 := VT6.out.cell (j := 1) rfl
               have f1 := VT6.out.frozen 1
               have VT7 : Hid (Row (w6.setCell ⟨W.heap.size, 1, none⟩ (.slice b6 (m + 1) d6)) (W.heap.size) 25 [.slice ua n uc, .slice b6 (m + 1) d6, .int .i64 next]) := VT6.out.set 1 _
               have KX : Hid (Kept (· ≠ W.heap.size) w6 (w6.setCell ⟨W.heap.size, 1, none⟩ (.slice b6 (m + 1) d6))) := (Kept.refl _ w6).setCell (p := ⟨W.heap.size, 1, none⟩) (fun h => h rfl) _
               have S4 : (w6.setCell ⟨W.heap.size, 1, none⟩ (.slice b6 (m + 1) d6)).cell? ⟨W.heap.size, 0, none⟩ = some (.slice ua n uc) ∧ (w6.setCell ⟨W.heap.size, 1, none⟩ (.slice b6 (m + 1) d6)).cell? ⟨W.heap.size, 2, none⟩ = some (.int .i64 next) ∧ (w6.setCell ⟨W.heap.size, 1, none⟩ (.slice b6 (m + 1) d6)).cell? ⟨w1.heap.size, 4, none⟩ = some (.string x.2.2.2.2.1) := ⟨VT7.out.cell (j := 0) rfl, VT7.out.cell (j := 2) rfl, (VX6.out.keep (KX.out.block _ (by have h7 := HZ.out; have h8 := HB.out; unfold Hid at h7 h8; have z5 := SZ_5.out; unfold Hid at z5; have z6 := SZ_6.out; unfold Hid at z6; have z11 := SZ_11.out; unfold Hid at z11; have z12 := SZ_12.out; unfold Hid at z12; show w1.heap.size ≠ W.heap.size; omega))).cell (j := 4) rfl⟩
               go_simp
               clear p1 f1
               refine hK.out _ _ ?_ (fun hH => ?_)
               · try dsimp only
                 first | exact S4 | exact S3 | exact S2 | exact S1 | exact S0
               clear hK K
               refine wpAnyH_done (by kernel_rfl) ?_ _
               clear hH S4 S3 S2 S1
               go_wp2_with fail
               go_meet
               exact ⟨b6, d6, VT7, HO6.out.keepK KX.out (fun q hq => by have h2 := hq.2; have h7 := HZ.out; have h8 := HB.out; unfold Hid at h7 h8; have z5 := SZ_5.out; unfold Hid at z5; have z6 := SZ_6.out; unfold Hid at z6; have z11 := SZ_11.out; unfold Hid at z11; have z12 := SZ_12.out; unfold Hid at z12; show q ≠ W.heap.size; omega) (fun q hq => by have h := HR6.out q hq; have h7 := HZ.out; have h8 := HB.out; unfold Hid at h7 h8; have z5 := SZ_5.out; unfold Hid at z5; have z6 := SZ_6.out; unfold Hid at z6; have z11 := SZ_11.out; unfold Hid at z11; have z12 := SZ_12.out; unfold Hid at z12; show q ≠ W.heap.size; omega), HR6, (K6.out.mono (fun q hq => ⟨hq.1, hq.2.2⟩)).trans (KX.out.mono (fun q hq => hq.2.1))⟩
     refine rcL (fun K hK => ?_) ?_
     · go_simp
       go_at_call 52
       refine Calls.mono (q4Q w12.drew _ ua n uc s.1 (rSectors.keep HNow.out (fun _ _ _ => rfl))) ?_
       rintro e w50 ⟨g5, d5, rfl, hrd5, bd5⟩
       have B5 : Hid (Below w12.heap.size w12 w50) := (Below.refl _ w12).drew.trans bd5
       have HR5 : Hid (rSectors.rd w50 (fun q => w12.heap.size ≤ q) [.slice g5 n d5] s.1) := hrd5
       have S1 := HSee.out _ B5.out
       clear hrd5 bd5
       go_simp
       refine hK.out _ _ ?_ (fun hH => ?_)
       · try dsimp only
         first | exact S4 | exact S3 | exact S2 | exact S1 | exact S0
       clear hK K
       refine tkM 9 _ rfl rfl ?_; simp only [sz, ss]
       refine rdL [1, 10] ?_
       refine rcL (fun K hK => ?_) ?_
       · have p1 := (Rt_12.out.below B5.out).cell (j := 1) rfl
         go_simp
         clear p1
         refine hK.out _ _ ?_ (fun hH => ?_)
         · try dsimp only
           first | exact S4 | exact S3 | exact S2 | exact S1 | exact S0
         clear hK K
         refine r1L 10 rfl fun K hK => ?_
         · go_simp
           have BA0 : Hid (Below w50.heap.size w50 (w50.alloc (.cells #[.int .i64 next, .string x.2.2.2.2.1, .slice g5 n d5] 67))) := (Below.refl _ _).alloc (Nat.le_refl _) _
           have BA : Hid _ := on B5.out BA0.out
           have S2 := HSee.out _ BA.out
           refine hK.out _ _ ?_ (fun hH => ?_)
           · try dsimp only
             first | exact S4 | exact S3 | exact S2 | exact S1 | exact S0
           clear hK K
           refine r1L 11 rfl fun K hK => ?_
           · refine q2q q3Z rfl (.tmp 88) (.tmp 97) rfl hi (fun q => hi ≤ q ∧ (q < W.heap.size ∨ w5.heap.size ≤ q)) (.slice va m vc) s.2.1 (by simp [Go.Act.eval]) (Mv_12.out.below BA.out) ⟨w50.heap.size, 0, none⟩ [.int .i64 next, .string x.2.2.2.2.1, .slice g5 n d5] (next, x.2.2.2.2.1, s.1) (by simp [Go.Act.eval]) (q3J w50 next x.2.2.2.2.1 _ _) ?_ ?_ ?_ ?_ ?_
             · exact rSnp.weaken (q4j HI.out.1 HIx.out.2.2.2.2 (Rep.below HR5.out BA0.out)) (fun q hq _ => ⟨by have h1 : w12.heap.size ≤ q := hq; have h7 := HZ.out; have h8 := HB.out; unfold Hid at h7 h8; have z5 := SZ_5.out; unfold Hid at z5; have z6 := SZ_6.out; unfold Hid at z6; have z11 := SZ_11.out; unfold Hid at z11; have z12 := SZ_12.out; unfold Hid at z12; exact ⟨by omega, .inr (by omega)⟩, fun e => by have h1 : w12.heap.size ≤ q := hq; have h3 := HVr.out q e; have h7 := HZ.out; have h8 := HB.out; unfold Hid at h7 h8; have z5 := SZ_5.out; unfold Hid at z5; have z6 := SZ_6.out; unfold Hid at z6; have z11 := SZ_11.out; unfold Hid at z11; have z12 := SZ_12.out; unfold Hid at z12; omega⟩)
             · rw [HLm.out]; have h := HB.out.2.2.1; show _ * 48 ≤ _; omega
             · rw [HLm.out]; have h := HB.out.2.2.1; unfold maxLen; omega
             · have h1 := BA.out.size; have h7 := HZ.out; have h8 := HB.out; unfold Hid at h7 h8; have z5 := SZ_5.out; unfold Hid at z5; have z6 := SZ_6.out; unfold Hid at z6; have z11 := SZ_11.out; unfold Hid at z11; have z12 := SZ_12.out; unfold Hid at z12; omega
             intro b6 d6 w6 ho6 g6 hown6
             rw [HLm.out] at ho6 hown6 ⊢
             have HO6 : Hid (OwnsQ rSnp 67 w6 hi (fun q => hi ≤ q ∧ (q < W.heap.size ∨ w5.heap.size ≤ q)) (.slice b6 (m + 1) d6) (s.2.1 ++ [(next, x.2.2.2.2.1, s.1)])) := ho6
             have K6 : Hid (Kept (fun q => q < w12.heap.size ∧ some q ≠ (Value.slice va m vc).ownBlock) w12 w6) := ((Kept.below BA.out).mono (fun q hq => hq.1)).grown g6 (fun q hq => Nat.lt_of_lt_of_le hq.1 BA.out.size) (fun q hq hs => hs.2 hq.symm)
             have HR6 : Hid (∀ k, (Value.slice b6 (m + 1) d6).ownBlock = some k → k < W.heap.size ∨ w5.heap.size ≤ k) := fun q hq => by
              rcases hown6 with h | h
              · rw [h] at hq; exact .inl (HVr.out q hq).2
              · rw [h] at hq; cases hq; right; have h1 := BA.out.size; have h7 := HZ.out; have h8 := HB.out; unfold Hid at h7 h8; have z5 := SZ_5.out; unfold Hid at z5; have z6 := SZ_6.out; unfold Hid at z6; have z11 := SZ_11.out; unfold Hid at z11; have z12 := SZ_12.out; unfold Hid at z12; omega
             have VT6 : Hid (Row w6 (W.heap.size) 25 [.slice ua n uc, .slice va m vc, .int .i64 next]) := Rt_12.out.keep (K6.out.block _ ⟨Rt_12.out.lt, fun e => by have h := (HVr.out _ e.symm).2; omega⟩)
             have VX6 : Hid (Row w6 (w1.heap.size) 28 [.int .i64 x.1, .int .i64 x.2.1, .int .i64 x.2.2.1, .int .i64 x.2.2.2.1, .string x.2.2.2.2.1, .slice xa xn xc]) := Rx_12.out.keep (K6.out.block _ ⟨Rx_12.out.lt, fun e => by have h := (HVr.out _ e.symm).2; have h7 := HZ.out; have h8 := HB.out; unfold Hid at h7 h8; have z5 := SZ_5.out; unfold Hid at z5; have z6 := SZ_6.out; unfold Hid at z6; have z11 := SZ_11.out; unfold Hid at z11; have z12 := SZ_12.out; unfold Hid at z12; omega⟩)
             have S3 : w6.cell? ⟨W.heap.size, 0, none⟩ = some (.slice ua n uc) ∧ w6.cell? ⟨W.heap.size, 2, none⟩ = some (.int .i64 next) ∧ w6.cell? ⟨w1.heap.size, 4, none⟩ = some (.string x.2.2.2.2.1) := ⟨VT6.out.cell (j := 0) rfl, VT6.out.cell (j := 2) rfl, VX6.out.cell (j := 4) rfl⟩
             clear ho6 g6 hown6
             try go_simp
             refine hK.out _ _ ?_ (fun hH => ?_)
             · try dsimp only
               first | exact S4 | exact S3 | exact S2 | exact S1 | exact S0
             clear hK K
             refine tkM 12 _ rfl rfl ?_; simp only [sz, ss]
             refine r1L 13 rfl fun K hK => ?_
             · have p1 := VT6.out.cell (j := 1) rfl
               have f1 := VT6.out.frozen 1
               have VT7 : Hid (Row (w6.setCell ⟨W.heap.size, 1, none⟩ (.slice b6 (m + 1) d6)) (W.heap.size) 25 [.slice ua n uc, .slice b6 (m + 1) d6, .int .i64 next]) := VT6.out.set 1 _
               have KX : Hid (Kept (· ≠ W.heap.size) w6 (w6.setCell ⟨W.heap.size, 1, none⟩ (.slice b6 (m + 1) d6))) := (Kept.refl _ w6).setCell (p := ⟨W.heap.size, 1, none⟩) (fun h => h rfl) _
               have S4 : (w6.setCell ⟨W.heap.size, 1, none⟩ (.slice b6 (m + 1) d6)).cell? ⟨W.heap.size, 0, none⟩ = some (.slice ua n uc) ∧ (w6.setCell ⟨W.heap.size, 1, none⟩ (.slice b6 (m + 1) d6)).cell? ⟨W.heap.size, 2, none⟩ = some (.int .i64 next) ∧ (w6.setCell ⟨W.heap.size, 1, none⟩ (.slice b6 (m + 1) d6)).cell? ⟨w1.heap.size, 4, none⟩ = some (.string x.2.2.2.2.1) := ⟨VT7.out.cell (j := 0) rfl, VT7.out.cell (j := 2) rfl, (VX6.out.keep (KX.out.block _ (by have h7 := HZ.out; have h8 := HB.out; unfold Hid at h7 h8; have z5 := SZ_5.out; unfold Hid at z5; have z6 := SZ_6.out; unfold Hid at z6; have z11 := SZ_11.out; unfold Hid at z11; have z12 := SZ_12.out; unfold Hid at z12; show w1.heap.size ≠ W.heap.size; omega))).cell (j := 4) rfl⟩
               go_simp
               clear p1 f1
               refine hK.out _ _ ?_ (fun hH => ?_)
               · try dsimp only
                 first | exact S4 | exact S3 | exact S2 | exact S1 | exact S0
               clear hK K
               refine wpAnyH_done (by kernel_rfl) ?_ _
               clear hH S4 S3 S2 S1
               go_wp2_with fail
               go_meet
               exact ⟨b6, d6, VT7, HO6.out.keepK KX.out (fun q hq => by have h2 := hq.2; have h7 := HZ.out; have h8 := HB.out; unfold Hid at h7 h8; have z5 := SZ_5.out; unfold Hid at z5; have z6 := SZ_6.out; unfold Hid at z6; have z11 := SZ_11.out; unfold Hid at z11; have z12 := SZ_12.out; unfold Hid at z12; show q ≠ W.heap.size; omega) (fun q hq => by have h := HR6.out q hq; have h7 := HZ.out; have h8 := HB.out; unfold Hid at h7 h8; have z5 := SZ_5.out; unfold Hid at z5; have z6 := SZ_6.out; unfold Hid at z6; have z11 := SZ_11.out; unfold Hid at z11; have z12 := SZ_12.out; unfold Hid at z12; show q ≠ W.heap.size; omega), HR6, (K6.out.mono (fun q hq => ⟨hq.1, hq.2.2⟩)).trans (KX.out.mono (fun q hq => hq.2.1))⟩
       refine rcL (fun K hK => ?_) ?_
       · go_simp
         have BA0 : Hid (Below w50.heap.size w50 (w50.alloc (.cells #[.int .i64 next, .string x.2.2.2.2.1, .slice g5 n d5] 67))) := (Below.refl _ _).alloc (Nat.le_refl _) _
         have BA : Hid _ := on B5.out BA0.out
         have S2 := HSee.out _ BA.out
         refine hK.out _ _ ?_ (fun hH => ?_)
         · try dsimp only
           first | exact S4 | exact S3 | exact S2 | exact S1 | exact S0
         clear hK K
         refine r1L 1 rfl fun K hK => ?_
         · have p1 := (Rt_12.out.below (BA.out)).cell (j := 1) rfl
           go_simp
           clear p1
           refine hK.out _ _ ?_ (fun hH => ?_)
           · try dsimp only
             first | exact S4 | exact S3 | exact S2 | exact S1 | exact S0
           clear hK K
           refine r1L 11 rfl fun K hK => ?_
           · refine q2q q3Z rfl (.tmp 88) (.tmp 97) rfl hi (fun q => hi ≤ q ∧ (q < W.heap.size ∨ w5.heap.size ≤ q)) (.slice va m vc) s.2.1 (by simp [Go.Act.eval]) (Mv_12.out.below BA.out) ⟨w50.heap.size, 0, none⟩ [.int .i64 next, .string x.2.2.2.2.1, .slice g5 n d5] (next, x.2.2.2.2.1, s.1) (by simp [Go.Act.eval]) (q3J w50 next x.2.2.2.2.1 _ _) ?_ ?_ ?_ ?_ ?_
             · exact rSnp.weaken (q4j HI.out.1 HIx.out.2.2.2.2 (Rep.below HR5.out BA0.out)) (fun q hq _ => ⟨by have h1 : w12.heap.size ≤ q := hq; have h7 := HZ.out; have h8 := HB.out; unfold Hid at h7 h8; have z5 := SZ_5.out; unfold Hid at z5; have z6 := SZ_6.out; unfold Hid at z6; have z11 := SZ_11.out; unfold Hid at z11; have z12 := SZ_12.out; unfold Hid at z12; exact ⟨by omega, .inr (by omega)⟩, fun e => by have h1 : w12.heap.size ≤ q := hq; have h3 := HVr.out q e; have h7 := HZ.out; have h8 := HB.out; unfold Hid at h7 h8; have z5 := SZ_5.out; unfold Hid at z5; have z6 := SZ_6.out; unfold Hid at z6; have z11 := SZ_11.out; unfold Hid at z11; have z12 := SZ_12.out; unfold Hid at z12; omega⟩)
             · rw [HLm.out]; have h := HB.out.2.2.1; show _ * 48 ≤ _; omega
             · rw [HLm.out]; have h := HB.out.2.2.1; unfold maxLen; omega
             · have h1 := BA.out.size; have h7 := HZ.out; have h8 := HB.out; unfold Hid at h7 h8; have z5 := SZ_5.out; unfold Hid at z5; have z6 := SZ_6.out; unfold Hid at z6; have z11 := SZ_11.out; unfold Hid at z11; have z12 := SZ_12.out; unfold Hid at z12; omega
             intro b6 d6 w6 ho6 g6 hown6
             rw [HLm.out] at ho6 hown6 ⊢
             have HO6 : Hid (OwnsQ rSnp 67 w6 hi (fun q => hi ≤ q ∧ (q < W.heap.size ∨ w5.heap.size ≤ q)) (.slice b6 (m + 1) d6) (s.2.1 ++ [(next, x.2.2.2.2.1, s.1)])) := ho6
             have K6 : Hid (Kept (fun q => q < w12.heap.size ∧ some q ≠ (Value.slice va m vc).ownBlock) w12 w6) := ((Kept.below BA.out).mono (fun q hq => hq.1)).grown g6 (fun q hq => Nat.lt_of_lt_of_le hq.1 BA.out.size) (fun q hq hs => hs.2 hq.symm)
             have HR6 : Hid (∀ k, (Value.slice b6 (m + 1) d6).ownBlock = some k → k < W.heap.size ∨ w5.heap.size ≤ k) := fun q hq => by
              rcases hown6 with h | h
              · rw [h] at hq; exact .inl (HVr.out q hq).2
              · rw [h] at hq; cases hq; right; have h1 := BA.out.size; have h7 := HZ.out; have h8 := HB.out; unfold Hid at h7 h8; have z5 := SZ_5.out; unfold Hid at z5; have z6 := SZ_6.out; unfold Hid at z6; have z11 := SZ_11.out; unfold Hid at z11; have z12 := SZ_12.out; unfold Hid at z12; omega
             have VT6 : Hid (Row w6 (W.heap.size) 25 [.slice ua n uc, .slice va m vc, .int .i64 next]) := Rt_12.out.keep (K6.out.block _ ⟨Rt_12.out.lt, fun e => by have h := (HVr.out _ e.symm).2; omega⟩)
             have VX6 : Hid (Row w6 (w1.heap.size) 28 [.int .i64 x.1, .int .i64 x.2.1, .int .i64 x.2.2.1, .int .i64 x.2.2.2.1, .string x.2.2.2.2.1, .slice xa xn xc]) := Rx_12.out.keep (K6.out.block _ ⟨Rx_12.out.lt, fun e => by have h := (HVr.out _ e.symm).2; have h7 := HZ.out; have h8 := HB.out; unfold Hid at h7 h8; have z5 := SZ_5.out; unfold Hid at z5; have z6 := SZ_6.out; unfold Hid at z6; have z11 := SZ_11.out; unfold Hid at z11; have z12 := SZ_12.out; unfold Hid at z12; omega⟩)
             have S3 : w6.cell? ⟨W.heap.size, 0, none⟩ = some (.slice ua n uc) ∧ w6.cell? ⟨W.heap.size, 2, none⟩ = some (.int .i64 next) ∧ w6.cell? ⟨w1.heap.size, 4, none⟩ = some (.string x.2.2.2.2.1) := ⟨VT6.out.cell (j := 0) rfl, VT6.out.cell (j := 2) rfl, VX6.out.cell (j := 4) rfl⟩
             clear ho6 g6 hown6
             try go_simp
             refine hK.out _ _ ?_ (fun hH => ?_)
             · try dsimp only
               first | exact S4 | exact S3 | exact S2 | exact S1 | exact S0
             clear hK K
             refine tkM 12 _ rfl rfl ?_; simp only [sz, ss]
             refine r1L 13 rfl fun K hK => ?_
             · have p1 := VT6.out.cell (j := 1) rfl
               have f1 := VT6.out.frozen 1
               have VT7 : Hid (Row (w6.setCell ⟨W.heap.size, 1, none⟩ (.slice b6 (m + 1) d6)) (W.heap.size) 25 [.slice ua n uc, .slice b6 (m + 1) d6, .int .i64 next]) := VT6.out.set 1 _
               have KX : Hid (Kept (· ≠ W.heap.size) w6 (w6.setCell ⟨W.heap.size, 1, none⟩ (.slice b6 (m + 1) d6))) := (Kept.refl _ w6).setCell (p := ⟨W.heap.size, 1, none⟩) (fun h => h rfl) _
               have S4 : (w6.setCell ⟨W.heap.size, 1, none⟩ (.slice b6 (m + 1) d6)).cell? ⟨W.heap.size, 0, none⟩ = some (.slice ua n uc) ∧ (w6.setCell ⟨W.heap.size, 1, none⟩ (.slice b6 (m + 1) d6)).cell? ⟨W.heap.size, 2, none⟩ = some (.int .i64 next) ∧ (w6.setCell ⟨W.heap.size, 1, none⟩ (.slice b6 (m + 1) d6)).cell? ⟨w1.heap.size, 4, none⟩ = some (.string x.2.2.2.2.1) := ⟨VT7.out.cell (j := 0) rfl, VT7.out.cell (j := 2) rfl, (VX6.out.keep (KX.out.block _ (by have h7 := HZ.out; have h8 := HB.out; unfold Hid at h7 h8; have z5 := SZ_5.out; unfold Hid at z5; have z6 := SZ_6.out; unfold Hid at z6; have z11 := SZ_11.out; unfold Hid at z11; have z12 := SZ_12.out; unfold Hid at z12; show w1.heap.size ≠ W.heap.size; omega))).cell (j := 4) rfl⟩
               go_simp
               clear p1 f1
               refine hK.out _ _ ?_ (fun hH => ?_)
               · try dsimp only
                 first | exact S4 | exact S3 | exact S2 | exact S1 | exact S0
               clear hK K
               refine wpAnyH_done (by kernel_rfl) ?_ _
               clear hH S4 S3 S2 S1
               go_wp2_with fail
               go_meet
               exact ⟨b6, d6, VT7, HO6.out.keepK KX.out (fun q hq => by have h2 := hq.2; have h7 := HZ.out; have h8 := HB.out; unfold Hid at h7 h8; have z5 := SZ_5.out; unfold Hid at z5; have z6 := SZ_6.out; unfold Hid at z6; have z11 := SZ_11.out; unfold Hid at z11; have z12 := SZ_12.out; unfold Hid at z12; show q ≠ W.heap.size; omega) (fun q hq => by have h := HR6.out q hq; have h7 := HZ.out; have h8 := HB.out; unfold Hid at h7 h8; have z5 := SZ_5.out; unfold Hid at z5; have z6 := SZ_6.out; unfold Hid at z6; have z11 := SZ_11.out; unfold Hid at z11; have z12 := SZ_12.out; unfold Hid at z12; show q ≠ W.heap.size; omega), HR6, (K6.out.mono (fun q hq => ⟨hq.1, hq.2.2⟩)).trans (KX.out.mono (fun q hq => hq.2.1))⟩
       exact rnL
     exact rnL
    clear S0 HSee
    clear qt0 qt2 qx0 qx1 qx2 qx3 qx4 qx5 pp12 pf12 hs12
    obtain ⟨b6, d6, RT, OM6, HR6, HK⟩ := hcut
    obtain ⟨w13, hw13⟩ : ∃ v, v = wc := ⟨_, rfl⟩
    subst hw13
    have Rt_13 : Hid _ := RT
    have Rx_13 : Hid (Row w13 (w1.heap.size) 28 [.int .i64 x.1, .int .i64 x.2.1, .int .i64 x.2.2.1, .int .i64 x.2.2.2.1, .string x.2.2.2.2.1, .slice xa xn xc]) := Rx_12.out.keep (HK.out.block _ ⟨Rx_12.out.lt, by have h7 := HZ.out; have h8 := HB.out; unfold Hid at h7 h8; have z5 := SZ_5.out; unfold Hid at z5; have z6 := SZ_6.out; unfold Hid at z6; have z11 := SZ_11.out; unfold Hid at z11; have z12 := SZ_12.out; unfold Hid at z12; show w1.heap.size ≠ W.heap.size; omega, fun e => by have h := (HVr.out _ e.symm).2; have h7 := HZ.out; have h8 := HB.out; unfold Hid at h7 h8; have z5 := SZ_5.out; unfold Hid at z5; have z6 := SZ_6.out; unfold Hid at z6; have z11 := SZ_11.out; unfold Hid at z11; have z12 := SZ_12.out; unfold Hid at z12; omega⟩)
    have Rp_13 : Hid (Row w13 (w2.heap.size) 25 [.slice none 0 0, .slice none 0 0, .int .i64 0]) := Rp_12.out.keep (HK.out.block _ ⟨Rp_12.out.lt, by have h7 := HZ.out; have h8 := HB.out; unfold Hid at h7 h8; have z5 := SZ_5.out; unfold Hid at z5; have z6 := SZ_6.out; unfold Hid at z6; have z11 := SZ_11.out; unfold Hid at z11; have z12 := SZ_12.out; unfold Hid at z12; show w2.heap.size ≠ W.heap.size; omega, fun e => by have h := (HVr.out _ e.symm).2; have h7 := HZ.out; have h8 := HB.out; unfold Hid at h7 h8; have z5 := SZ_5.out; unfold Hid at z5; have z6 := SZ_6.out; unfold Hid at z6; have z11 := SZ_11.out; unfold Hid at z11; have z12 := SZ_12.out; unfold Hid at z12; omega⟩)
    have Rq_13 : Hid (Row w13 (w3.heap.size) 43 [.int .i64 0, .slice none 0 0, .int .i64 0, .slice none 0 0, .int .i64 0]) := Rq_12.out.keep (HK.out.block _ ⟨Rq_12.out.lt, by have h7 := HZ.out; have h8 := HB.out; unfold Hid at h7 h8; have z5 := SZ_5.out; unfold Hid at z5; have z6 := SZ_6.out; unfold Hid at z6; have z11 := SZ_11.out; unfold Hid at z11; have z12 := SZ_12.out; unfold Hid at z12; show w3.heap.size ≠ W.heap.size; omega, fun e => by have h := (HVr.out _ e.symm).2; have h7 := HZ.out; have h8 := HB.out; unfold Hid at h7 h8; have z5 := SZ_5.out; unfold Hid at z5; have z6 := SZ_6.out; unfold Hid at z6; have z11 := SZ_11.out; unfold Hid at z11; have z12 := SZ_12.out; unfold Hid at z12; omega⟩)
    have Rr_13 : Hid (Row w13 (w4.heap.size) 43 [.int .i64 0, .slice none 0 0, .int .i64 next, .slice none 0 0, .int .i64 0]) := Rr_12.out.keep (HK.out.block _ ⟨Rr_12.out.lt, by have h7 := HZ.out; have h8 := HB.out; unfold Hid at h7 h8; have z5 := SZ_5.out; unfold Hid at z5; have z6 := SZ_6.out; unfold Hid at z6; have z11 := SZ_11.out; unfold Hid at z11; have z12 := SZ_12.out; unfold Hid at z12; show w4.heap.size ≠ W.heap.size; omega, fun e => by have h := (HVr.out _ e.symm).2; have h7 := HZ.out; have h8 := HB.out; unfold Hid at h7 h8; have z5 := SZ_5.out; unfold Hid at z5; have z6 := SZ_6.out; unfold Hid at z6; have z11 := SZ_11.out; unfold Hid at z11; have z12 := SZ_12.out; unfold Hid at z12; omega⟩)
    have Sn_13 : Hid (rSectors.rd w13 (fun q => base ≤ q ∧ q < hi) [.slice ua n uc] (s.1)) := Rep.kept HNow.out HK.out (fun q hq hl => ⟨hl, by have h2 := hq.2; have h7 := HZ.out; have h8 := HB.out; unfold Hid at h7 h8; have z5 := SZ_5.out; unfold Hid at z5; have z6 := SZ_6.out; unfold Hid at z6; have z11 := SZ_11.out; unfold Hid at z11; have z12 := SZ_12.out; unfold Hid at z12; show q ≠ W.heap.size; omega, fun e => by have h := (HVr.out _ e.symm).1; have h2 := hq.2; omega⟩)
    have Uv_13 : Hid (rSnps.rd w13 (fun q => hi ≤ q ∧ (q < W.heap.size ∨ w5.heap.size ≤ q)) [.slice b6 (m + 1) d6] (s.2.1 ++ [(next, x.2.2.2.2.1, s.1)])) := OwnsQ.rdQ (hs := by decide) OM6.out (by rw [List.length_append, HLm.out]; rfl) (by have h := HB.out.2.2.1; show (m + 1) * 48 ≤ _; omega) (fun k hk => ⟨(OM6.out.row k hk).1, HR6.out k hk⟩)
    have B_13 : Hid (Below base W w13) := Kept.toBelow ((Kept.below B_12.out).trans (HK.out.mono (fun q hq => by have hq2 : q < base := hq; have h1 := B_12.out.size; have h7 := HZ.out; have h8 := HB.out; unfold Hid at h7 h8; have z5 := SZ_5.out; unfold Hid at z5; have z6 := SZ_6.out; unfold Hid at z6; have z11 := SZ_11.out; unfold Hid at z11; have z12 := SZ_12.out; unfold Hid at z12; exact ⟨by omega, by show q ≠ W.heap.size; omega, fun e => by have h := (HVr.out _ e.symm).1; omega⟩)))
    have SZ_13 : Hid (w5.heap.size ≤ w13.heap.size) := Nat.le_trans SZ_12.out HK.out.size
    clear HK RT OM6 HR6 HNow B_12 Rt_12 Rx_12 Rp_12 Rq_12 Rr_12 Ds_12 Yd_12 Jn_12 Mv_12 Us_12
    have qt0 := Rt_13.out.cell (j := 0) rfl
    have qt1 := Rt_13.out.cell (j := 1) rfl
    have qt2 := Rt_13.out.cell (j := 2) rfl
    have pp14 := Rt_13.out.cell (j := 2) rfl
    have pf14 := Rt_13.out.frozen 2
    obtain ⟨w14, hs14⟩ : ∃ v, w13.setCell ⟨W.heap.size, 2, none⟩ (.int .i64 (next + 1)) = v := ⟨_, rfl⟩
    have K14 : Hid (Kept (· ≠ W.heap.size) w13 w14) := by rw [← hs14]; exact (Kept.refl _ w13).setCell (p := ⟨W.heap.size, 2, none⟩) (fun h => h rfl) _
    have Rt_14 : Hid (Row w14 (W.heap.size) 25 [.slice ua n uc, .slice b6 (m + 1) d6, .int .i64 (next + 1)]) := by rw [← hs14]; exact Rt_13.out.set 2 _
    have Rx_14 : Hid (Row w14 (w1.heap.size) 28 [.int .i64 x.1, .int .i64 x.2.1, .int .i64 x.2.2.1, .int .i64 x.2.2.2.1, .string x.2.2.2.2.1, .slice xa xn xc]) := Rx_13.out.keep (K14.out.block _ (by have h7 := HZ.out; have h8 := HB.out; unfold Hid at h7 h8; have z5 := SZ_5.out; unfold Hid at z5; have z6 := SZ_6.out; unfold Hid at z6; have z11 := SZ_11.out; unfold Hid at z11; have z12 := SZ_12.out; unfold Hid at z12; have z13 := SZ_13.out; unfold Hid at z13; show w1.heap.size ≠ W.heap.size; omega))
    have Rp_14 : Hid (Row w14 (w2.heap.size) 25 [.slice none 0 0, .slice none 0 0, .int .i64 0]) := Rp_13.out.keep (K14.out.block _ (by have h7 := HZ.out; have h8 := HB.out; unfold Hid at h7 h8; have z5 := SZ_5.out; unfold Hid at z5; have z6 := SZ_6.out; unfold Hid at z6; have z11 := SZ_11.out; unfold Hid at z11; have z12 := SZ_12.out; unfold Hid at z12; have z13 := SZ_13.out; unfold Hid at z13; show w2.heap.size ≠ W.heap.size; omega))
    have Rq_14 : Hid (Row w14 (w3.heap.size) 43 [.int .i64 0, .slice none 0 0, .int .i64 0, .slice none 0 0, .int .i64 0]) := Rq_13.out.keep (K14.out.block _ (by have h7 := HZ.out; have h8 := HB.out; unfold Hid at h7 h8; have z5 := SZ_5.out; unfold Hid at z5; have z6 := SZ_6.out; unfold Hid at z6; have z11 := SZ_11.out; unfold Hid at z11; have z12 := SZ_12.out; unfold Hid at z12; have z13 := SZ_13.out; unfold Hid at z13; show w3.heap.size ≠ W.heap.size; omega))
    have Rr_14 : Hid (Row w14 (w4.heap.size) 43 [.int .i64 0, .slice none 0 0, .int .i64 next, .slice none 0 0, .int .i64 0]) := Rr_13.out.keep (K14.out.block _ (by have h7 := HZ.out; have h8 := HB.out; unfold Hid at h7 h8; have z5 := SZ_5.out; unfold Hid at z5; have z6 := SZ_6.out; unfold Hid at z6; have z11 := SZ_11.out; unfold Hid at z11; have z12 := SZ_12.out; unfold Hid at z12; have z13 := SZ_13.out; unfold Hid at z13; show w4.heap.size ≠ W.heap.size; omega))
    have Sn_14 : Hid (rSectors.rd w14 (fun q => base ≤ q ∧ q < hi) [.slice ua n uc] (s.1)) := Rep.kept Sn_13.out K14.out (fun q hq hl => by have h7 := HZ.out; have h8 := HB.out; unfold Hid at h7 h8; have z5 := SZ_5.out; unfold Hid at z5; have z6 := SZ_6.out; unfold Hid at z6; have z11 := SZ_11.out; unfold Hid at z11; have z12 := SZ_12.out; unfold Hid at z12; have z13 := SZ_13.out; unfold Hid at z13; have h1 := hq.2; show q ≠ W.heap.size; omega)
    have Uv_14 : Hid (rSnps.rd w14 (fun q => hi ≤ q ∧ (q < W.heap.size ∨ w5.heap.size ≤ q)) [.slice b6 (m + 1) d6] (s.2.1 ++ [(next, x.2.2.2.2.1, s.1)])) := Rep.kept Uv_13.out K14.out (fun q hq hl => by have h7 := HZ.out; have h8 := HB.out; unfold Hid at h7 h8; have z5 := SZ_5.out; unfold Hid at z5; have z6 := SZ_6.out; unfold Hid at z6; have z11 := SZ_11.out; unfold Hid at z11; have z12 := SZ_12.out; unfold Hid at z12; have z13 := SZ_13.out; unfold Hid at z13; have h1 := hq.2; show q ≠ W.heap.size; omega)
    have B_14 : Hid (Below base W w14) := Kept.belowOf B_13.out K14.out (by have h7 := HZ.out; have h8 := HB.out; unfold Hid at h7 h8; have z5 := SZ_5.out; unfold Hid at z5; have z6 := SZ_6.out; unfold Hid at z6; have z11 := SZ_11.out; unfold Hid at z11; have z12 := SZ_12.out; unfold Hid at z12; have z13 := SZ_13.out; unfold Hid at z13; omega)
    have SZ_14 : Hid (w5.heap.size ≤ w14.heap.size) := Nat.le_trans SZ_13.out K14.out.size
    clear Rt_13 Rx_13 Rp_13 Rq_13 Rr_13 Sn_13 Uv_13
    have Dz_14 : Hid (rSta.rd w14 (fun q => base ≤ q ∧ (q < W.heap.size ∨ w5.heap.size ≤ q)) [.slice ua n uc, .slice b6 (m + 1) d6, .int .i64 (next + 1)] ((s.1, s.2.1 ++ [(next, x.2.2.2.2.1, s.1)], next + 1))) := q2Q (s := (s.1, s.2.1 ++ [(next, x.2.2.2.2.1, s.1)], next + 1)) (rSectors.weaken Sn_14.out (fun q hq _ => by have h7 := HZ.out; have h8 := HB.out; unfold Hid at h7 h8; have z5 := SZ_5.out; unfold Hid at z5; have z6 := SZ_6.out; unfold Hid at z6; have z11 := SZ_11.out; unfold Hid at z11; have z12 := SZ_12.out; unfold Hid at z12; have z13 := SZ_13.out; unfold Hid at z13; have z14 := SZ_14.out; unfold Hid at z14; have h1 := hq.1; have h2 := hq.2; exact ⟨by omega, .inl (by omega)⟩)) (rSnps.weaken Uv_14.out (fun q hq _ => by have h7 := HZ.out; have h8 := HB.out; unfold Hid at h7 h8; have z5 := SZ_5.out; unfold Hid at z5; have z6 := SZ_6.out; unfold Hid at z6; have z11 := SZ_11.out; unfold Hid at z11; have z12 := SZ_12.out; unfold Hid at z12; have z13 := SZ_13.out; unfold Hid at z13; have z14 := SZ_14.out; unfold Hid at z14; have h1 := hq.1; exact ⟨by omega, hq.2⟩)) (by have h1 := HI.out.2; show -9223372036854775808 ≤ next + 1 ∧ next + 1 ≤ 9223372036854775807; omega)
    have HcS : Hid (Mo.chgS s x = (s.1, s.2.1 ++ [(next, x.2.2.2.2.1, s.1)], next + 1)) := by unfold Hid Mo.chgS Mo.what; rw [HwK.out, ← HNx.out]; rfl
    have HcI : Hid (Mo.chgI s x = next) := by unfold Hid Mo.chgI Mo.what; rw [HwK.out]; exact HNx.out
    have HcD : Hid (Mo.chgD s x = []) := by unfold Hid Mo.chgD Mo.what; rw [HwK.out]; rfl
    have HcL : Hid (Mo.chgL s x = []) := by unfold Hid Mo.chgL Mo.what; rw [HwK.out]; rfl
    have HSeeT : Hid (∀ w', Kept (fun q => q ≠ w2.heap.size ∧ q ≠ w3.heap.size) w14 w' → w'.cell? ⟨W.heap.size, 0, none⟩ = some (.slice ua n uc) ∧ w'.cell? ⟨W.heap.size, 1, none⟩ = some (.slice b6 (m + 1) d6) ∧ w'.cell? ⟨W.heap.size, 2, none⟩ = some (.int .i64 (next + 1)) ∧ w'.cell? ⟨w4.heap.size, 0, none⟩ = some (.int .i64 0) ∧ w'.cell? ⟨w4.heap.size, 1, none⟩ = some (.slice none 0 0) ∧ w'.cell? ⟨w4.heap.size, 2, none⟩ = some (.int .i64 next) ∧ w'.cell? ⟨w4.heap.size, 3, none⟩ = some (.slice none 0 0) ∧ w'.cell? ⟨w4.heap.size, 4, none⟩ = some (.int .i64 0)) := fun w' hk => ⟨hk.cell (p := ⟨W.heap.size, 0, none⟩) (by have h7 := HZ.out; have h8 := HB.out; unfold Hid at h7 h8; have z5 := SZ_5.out; unfold Hid at z5; have z6 := SZ_6.out; unfold Hid at z6; have z11 := SZ_11.out; unfold Hid at z11; have z12 := SZ_12.out; unfold Hid at z12; have z13 := SZ_13.out; unfold Hid at z13; have z14 := SZ_14.out; unfold Hid at z14; exact ⟨by show W.heap.size ≠ w2.heap.size; omega, by show W.heap.size ≠ w3.heap.size; omega⟩) (Rt_14.out.cell (j := 0) rfl), hk.cell (p := ⟨W.heap.size, 1, none⟩) (by have h7 := HZ.out; have h8 := HB.out; unfold Hid at h7 h8; have z5 := SZ_5.out; unfold Hid at z5; have z6 := SZ_6.out; unfold Hid at z6; have z11 := SZ_11.out; unfold Hid at z11; have z12 := SZ_12.out; unfold Hid at z12; have z13 := SZ_13.out; unfold Hid at z13; have z14 := SZ_14.out; unfold Hid at z14; exact ⟨by show W.heap.size ≠ w2.heap.size; omega, by show W.heap.size ≠ w3.heap.size; omega⟩) (Rt_14.out.cell (j := 1) rfl), hk.cell (p := ⟨W.heap.size, 2, none⟩) (by have h7 := HZ.out; have h8 := HB.out; unfold Hid at h7 h8; have z5 := SZ_5.out; unfold Hid at z5; have z6 := SZ_6.out; unfold Hid at z6; have z11 := SZ_11.out; unfold Hid at z11; have z12 := SZ_12.out; unfold Hid at z12; have z13 := SZ_13.out; unfold Hid at z13; have z14 := SZ_14.out; unfold Hid at z14; exact ⟨by show W.heap.size ≠ w2.heap.size; omega, by show W.heap.size ≠ w3.heap.size; omega⟩) (Rt_14.out.cell (j := 2) rfl), hk.cell (p := ⟨w4.heap.size, 0, none⟩) (by have h7 := HZ.out; have h8 := HB.out; unfold Hid at h7 h8; have z5 := SZ_5.out; unfold Hid at z5; have z6 := SZ_6.out; unfold Hid at z6; have z11 := SZ_11.out; unfold Hid at z11; have z12 := SZ_12.out; unfold Hid at z12; have z13 := SZ_13.out; unfold Hid at z13; have z14 := SZ_14.out; unfold Hid at z14; exact ⟨by show w4.heap.size ≠ w2.heap.size; omega, by show w4.heap.size ≠ w3.heap.size; omega⟩) (Rr_14.out.cell (j := 0) rfl), hk.cell (p := ⟨w4.heap.size, 1, none⟩) (by have h7 := HZ.out; have h8 := HB.out; unfold Hid at h7 h8; have z5 := SZ_5.out; unfold Hid at z5; have z6 := SZ_6.out; unfold Hid at z6; have z11 := SZ_11.out; unfold Hid at z11; have z12 := SZ_12.out; unfold Hid at z12; have z13 := SZ_13.out; unfold Hid at z13; have z14 := SZ_14.out; unfold Hid at z14; exact ⟨by show w4.heap.size ≠ w2.heap.size; omega, by show w4.heap.size ≠ w3.heap.size; omega⟩) (Rr_14.out.cell (j := 1) rfl), hk.cell (p := ⟨w4.heap.size, 2, none⟩) (by have h7 := HZ.out; have h8 := HB.out; unfold Hid at h7 h8; have z5 := SZ_5.out; unfold Hid at z5; have z6 := SZ_6.out; unfold Hid at z6; have z11 := SZ_11.out; unfold Hid at z11; have z12 := SZ_12.out; unfold Hid at z12; have z13 := SZ_13.out; unfold Hid at z13; have z14 := SZ_14.out; unfold Hid at z14; exact ⟨by show w4.heap.size ≠ w2.heap.size; omega, by show w4.heap.size ≠ w3.heap.size; omega⟩) (Rr_14.out.cell (j := 2) rfl), hk.cell (p := ⟨w4.heap.size, 3, none⟩) (by have h7 := HZ.out; have h8 := HB.out; unfold Hid at h7 h8; have z5 := SZ_5.out; unfold Hid at z5; have z6 := SZ_6.out; unfold Hid at z6; have z11 := SZ_11.out; unfold Hid at z11; have z12 := SZ_12.out; unfold Hid at z12; have z13 := SZ_13.out; unfold Hid at z13; have z14 := SZ_14.out; unfold Hid at z14; exact ⟨by show w4.heap.size ≠ w2.heap.size; omega, by show w4.heap.size ≠ w3.heap.size; omega⟩) (Rr_14.out.cell (j := 3) rfl), hk.cell (p := ⟨w4.heap.size, 4, none⟩) (by have h7 := HZ.out; have h8 := HB.out; unfold Hid at h7 h8; have z5 := SZ_5.out; unfold Hid at z5; have z6 := SZ_6.out; unfold Hid at z6; have z11 := SZ_11.out; unfold Hid at z11; have z12 := SZ_12.out; unfold Hid at z12; have z13 := SZ_13.out; unfold Hid at z13; have z14 := SZ_14.out; unfold Hid at z14; exact ⟨by show w4.heap.size ≠ w2.heap.size; omega, by show w4.heap.size ≠ w3.heap.size; omega⟩) (Rr_14.out.cell (j := 4) rfl)⟩
    have S0 := HSeeT.out _ (Kept.refl _ w14).drew
    go_wp2_with fail
    refine wp_region_held_drew (S := (fun w' : World => w'.cell? ⟨W.heap.size, 0, none⟩ = some (.slice ua n uc) ∧ w'.cell? ⟨W.heap.size, 1, none⟩ = some (.slice b6 (m + 1) d6) ∧ w'.cell? ⟨W.heap.size, 2, none⟩ = some (.int .i64 (next + 1)) ∧ w'.cell? ⟨w4.heap.size, 0, none⟩ = some (.int .i64 0) ∧ w'.cell? ⟨w4.heap.size, 1, none⟩ = some (.slice none 0 0) ∧ w'.cell? ⟨w4.heap.size, 2, none⟩ = some (.int .i64 next) ∧ w'.cell? ⟨w4.heap.size, 3, none⟩ = some (.slice none 0 0) ∧ w'.cell? ⟨w4.heap.size, 4, none⟩ = some (.int .i64 0))) (by kernel_rfl) (S0) (fun hH => ?_)
    refine tkM 0 _ rfl rfl ?_; simp only [sz, ss]
    refine tkM 1 _ rfl rfl ?_; simp only [sz, ss]
    refine r1L 2 rfl fun K hK => ?_
    · have PA : Hid (Row w14 (w2.heap.size) 25 [.slice none 0 0, .slice none 0 0, .int .i64 0]) := Rp_14.out
      have sA0 := PA.out.cell (j := 0) rfl
      have uA0 := PA.out.frozen 0
      have sA1 := PA.out.cell (j := 1) rfl
      have uA1 := PA.out.frozen 1
      have sA2 := PA.out.cell (j := 2) rfl
      have uA2 := PA.out.frozen 2
      obtain ⟨wPA, hwPA, VPA, KPA⟩ := PA.out.whole3 (.slice ua n uc) (.slice b6 (m + 1) d6) (.int .i64 (next + 1))
      have HVPA : Hid _ := VPA
      have KKA : Hid (Kept (fun q => q ≠ w2.heap.size ∧ q ≠ w3.heap.size) w14 wPA) := KPA.mono (fun q hq => hq.1)
      have SPA := HSeeT.out _ KKA.out.drew
      clear VPA
      go_simp
      refine hK.out _ _ ?_ (fun hH => ?_)
      · try dsimp only
        first | exact SPA | exact SPB | exact S0
      clear hK K
      refine r1L 3 rfl fun K hK => ?_
      · have PB : Hid (Row wPA (w3.heap.size) 43 [.int .i64 0, .slice none 0 0, .int .i64 0, .slice none 0 0, .int .i64 0]) := Rq_14.out.keep (KPA.block _ (by have h7 := HZ.out; have h8 := HB.out; unfold Hid at h7 h8; have z5 := SZ_5.out; unfold Hid at z5; have z6 := SZ_6.out; unfold Hid at z6; have z11 := SZ_11.out; unfold Hid at z11; have z12 := SZ_12.out; unfold Hid at z12; have z13 := SZ_13.out; unfold Hid at z13; have z14 := SZ_14.out; unfold Hid at z14; show w3.heap.size ≠ w2.heap.size; omega))
        have sB0 := PB.out.cell (j := 0) rfl
        have uB0 := PB.out.frozen 0
        have sB1 := PB.out.cell (j := 1) rfl
        have uB1 := PB.out.frozen 1
        have sB2 := PB.out.cell (j := 2) rfl
        have uB2 := PB.out.frozen 2
        have sB3 := PB.out.cell (j := 3) rfl
        have uB3 := PB.out.frozen 3
        have sB4 := PB.out.cell (j := 4) rfl
        have uB4 := PB.out.frozen 4
        obtain ⟨wPB, hwPB, VPB, KPB⟩ := PB.out.whole5 (.int .i64 0) (.slice none 0 0) (.int .i64 next) (.slice none 0 0) (.int .i64 0)
        have HVPB : Hid _ := VPB
        have KKB : Hid (Kept (fun q => q ≠ w2.heap.size ∧ q ≠ w3.heap.size) w14 wPB) := KKA.out.trans (KPB.mono (fun q hq => hq.2))
        have SPB := HSeeT.out _ KKB.out.drew
        clear VPB
        go_simp
        refine hK.out _ _ ?_ (fun hH => ?_)
        · try dsimp only
          exact SPB
        clear hK K
        refine wpAnyH_done (by kernel_rfl) ?_ _
        have VA9 : Hid (Row wPB.drew (w2.heap.size) 25 [.slice ua n uc, .slice b6 (m + 1) d6, .int .i64 (next + 1)]) := (HVPA.out.keep (KPB.block _ (by have h7 := HZ.out; have h8 := HB.out; unfold Hid at h7 h8; have z5 := SZ_5.out; unfold Hid at z5; have z6 := SZ_6.out; unfold Hid at z6; have z11 := SZ_11.out; unfold Hid at z11; have z12 := SZ_12.out; unfold Hid at z12; have z13 := SZ_13.out; unfold Hid at z13; have z14 := SZ_14.out; unfold Hid at z14; show w2.heap.size ≠ w3.heap.size; omega))).keep rfl
        have VB9 : Hid (Row wPB.drew _ _ _) := HVPB.out.keep rfl
        clear hH SPA SPB S0
        go_wp2
        refine bodyPost_ret (q0x rfl rfl rfl VA9.out VB9.out Try.underlying25 rfl (by kernel_rfl) Try.underlying43 rfl (by kernel_rfl)) rfl ⟨_, _, _, _, _, _, _, _, _, _, _, _, _, by rw [HcI.out], ?_, ?_, ?_, ?_⟩
        · rw [HcS.out]; exact rSta.weaken (Rep.kept Dz_14.out KKB.out.drew (fun q hq hl => by have h7 := HZ.out; have h8 := HB.out; unfold Hid at h7 h8; have z5 := SZ_5.out; unfold Hid at z5; have z6 := SZ_6.out; unfold Hid at z6; have z11 := SZ_11.out; unfold Hid at z11; have z12 := SZ_12.out; unfold Hid at z12; have z13 := SZ_13.out; unfold Hid at z13; have z14 := SZ_14.out; unfold Hid at z14; have h1 := hq.1; have h2 := hq.2; exact ⟨by show q ≠ _; omega, by show q ≠ _; omega⟩)) (fun q hq hl => by have h7 := HZ.out; have h8 := HB.out; unfold Hid at h7 h8; have z5 := SZ_5.out; unfold Hid at z5; have z6 := SZ_6.out; unfold Hid at z6; have z11 := SZ_11.out; unfold Hid at z11; have z12 := SZ_12.out; unfold Hid at z12; have z13 := SZ_13.out; unfold Hid at z13; have z14 := SZ_14.out; unfold Hid at z14; have h1 := hq.1; show base ≤ q; omega)
        · rw [HcD.out]; exact q0j _ _ _ _ (fun _ => rfl)
        · rw [HcL.out]; exact q0Z _ _
        · exact Kept.toBelow ((Kept.below B_14.out).trans (KKB.out.drew.mono (fun q hq => by have h7 := HZ.out; have h8 := HB.out; unfold Hid at h7 h8; have z5 := SZ_5.out; unfold Hid at z5; have z6 := SZ_6.out; unfold Hid at z6; have z11 := SZ_11.out; unfold Hid at z11; have z12 := SZ_12.out; unfold Hid at z12; have z13 := SZ_13.out; unfold Hid at z13; have z14 := SZ_14.out; unfold Hid at z14; have h1 : q < base := hq; exact ⟨by show q ≠ _; omega, by show q ≠ _; omega⟩)))
end Go.Proofs.Ytoophkmnppoppaa
