/-
  What is at most a key is the last of what is not above it; what is under the key is it. Conditions: none.
-/
import Derived.Test.YtgbbkmdfangmmabGreatC04
import Derived.Test.YtgbbkmdfangmmabGreatC15
import Derived.Test.YtgbbkmdfangmmabGreatC18
import Derived.Test.YtgbbkmdfangmmabGreatC19
namespace Go.Proofs.YtgbbkmdfangmmabGreat
set_option maxRecDepth 20000
open Go.ChangeShapes Go.WideShapes Go.ChangeAt Go.RowKit
set_option linter.unusedVariables false
namespace Tr
theorem readI_upF {s : Pgs} {root : Int} : Up (readI s root) := by
  by_cases h : readE s root = 0
  · obtain ⟨-, hr⟩ := read_root h
    rcases hr with ⟨e, -⟩ | ⟨d, -, hF, hI, -⟩
    · rw [e]; exact List.Pairwise.nil
    · rw [← hI]; exact (fit_up hF).1
  · rw [readI_bad h]
    exact List.Pairwise.nil
theorem rangeE_pos (s : Pgs) (root : Int) : rangeE s root 1048576 = readE s root := by
  unfold rangeE
  by_cases h : readE s root = 0
  · rw [if_pos h, h]; rfl
  · rw [if_neg h]
theorem rangeL_all {s : Pgs} {root : Int} (h : readE s root = 0) : rangeL s root 0 1048576 = readI s root := by
  have e : (readI s root).filter (fun x => decide ((0 : UInt64).toNat ≤ x.1.toNat)) = readI s root := List.filter_eq_self.2 fun x _ => decide_eq_true (Nat.zero_le _)
  unfold rangeL rangeOf
  rw [if_pos ⟨h, by decide⟩, e, List.take_of_length_le (Nat.le_trans (readI_few s root) (by decide))]
theorem rangeL_none {s : Pgs} {root : Int} (h : readE s root ≠ 0) : rangeL s root 0 1048576 = [] := by
  unfold rangeL
  rw [if_neg (fun k => h k.1)]
theorem upto_take {l : List Itm} {key : UInt64} {k : Nat} (hu : Up l) (h1 : ∀ (j : Nat) (h : j < l.length), j < k → l[j].1.toNat ≤ key.toNat) (h2 : ∀ h : k < l.length, key.toNat < l[k].1.toNat) : (l.filter fun x => decide (x.1.toNat ≤ key.toNat)) = l.take k := by
  have e : l = l.take k ++ l.drop k := (List.take_append_drop k l).symm
  rw [e, List.filter_append, ← e]
  have a1 : (l.take k).filter (fun x => decide (x.1.toNat ≤ key.toNat)) = l.take k := List.filter_eq_self.2 fun x hx => by
    obtain ⟨j, hj, rfl⟩ := List.getElem_of_mem hx
    rw [List.getElem_take]
    rw [List.length_take] at hj
    exact decide_eq_true (h1 j (by omega) (by omega))
  have a2 : (l.drop k).filter (fun x => decide (x.1.toNat ≤ key.toNat)) = [] := List.filter_eq_nil_iff.2 fun x hx => by
    obtain ⟨j, hj, rfl⟩ := List.getElem_of_mem hx
    rw [List.length_drop] at hj
    rw [List.getElem_drop]
    have h3 := h2 (by omega)
    have h4 : l[k].1.toNat ≤ l[k + j].1.toNat := by
      by_cases z : j = 0
      · subst z; exact Nat.le_refl _
      · exact Nat.le_of_lt (List.pairwise_iff_getElem.1 hu k (k + j) (by omega) (by omega) (by omega))
    simp only [decide_eq_true_eq]
    omega
  rw [a1, a2, List.append_nil]
end Tr
set_option maxRecDepth 20000 in
set_option maxHeartbeats 8000000 in
theorem tfloors_walk (cs : List Value) (s : Pgs) (root : Int) (kk : Int) (W : World) (h0 : rSectors.rd W (fun b => b < W.heap.size) cs s) (hr0 : -9223372036854775808 ≤ root) (hr1 : root ≤ 9223372036854775807) (hk0 : 0 ≤ kk) (hk1 : kk ≤ 18446744073709551615) :
    Calls Tryz.prog 4 #[.agg cs.toArray, .int .i64 root, .int .u64 kk] W fun e W' => e = .returned (.bool true) ∧ Below W.heap.size W W' := by
  obtain ⟨key, hkey⟩ : ∃ key : UInt64, kk = (key.toNat : Int) := ⟨UInt64.ofNat kk.toNat, by rw [UInt64.toNat_ofNat']; omega⟩
  subst hkey
  clear hk0 hk1
  obtain ⟨a, n, c, rfl, hn, hn5⟩ := rPages_rd h0
  have HN : Hid (s.length = n) := hn
  have HN5 : Hid (n ≤ 5864062014634) := hn5
  have HR0 : Hid (-9223372036854775808 ≤ root) := hr0
  have HR1 : Hid (root ≤ 9223372036854775807) := hr1
  rw [show ([.slice a n c] : List Value).toArray = #[.slice a n c] from rfl]
  obtain ⟨w1, hw1, V1, b1, z1⟩ := boxedRow W 24 [.slice a n c]
  have Rs_1 : Hid (Row w1 (W.heap.size) 24 [.slice a n c]) := V1
  have B_1 : Hid (Below W.heap.size W w1) := b1
  have Ss_1 : Hid (rSectors.rd w1 (fun b => b < W.heap.size) [.slice a n c] (s)) := Rep.below h0 B_1.out
  clear V1 b1 z1 h0 hn hn5 hr0 hr1
  go_enter Tryz.func4, Tryz.ntmps4
  go_wp2_with fail
  go_at_call 5
  refine Calls.mono (alive8_u _) ?_
  rintro e w2 ⟨rfl, b2⟩
  have Rs_2 : Hid (Row w2 (W.heap.size) 24 [.slice a n c]) := Rs_1.out.below (b2)
  have Ss_2 : Hid (rSectors.rd w2 (fun b => b < W.heap.size) [.slice a n c] (s)) := Rep.below Ss_1.out (b2)
  have B_2 : Hid (Below W.heap.size W w2) := on B_1.out (b2)
  clear Rs_1 Ss_1
  clear b2
  have qs0 := Rs_2.out.cell (j := 0) rfl
  go_wp2_with (go_at_call 8; refine (num8_u _ _).mono ?_; rintro e w99 ⟨rfl, rfl⟩)
  go_at_call 7
  refine Calls.mono (of8_u _ _ s a n c Ss_2.out) ?_
  rintro e w3 ⟨ao, co, rfl, h3, b3⟩
  have So_3 : Hid (rSectors.rd w3 (fun b => w2.heap.size ≤ b) [.slice ao n co] (s)) := h3
  have Rs_3 : Hid (Row w3 (W.heap.size) 24 [.slice a n c]) := Rs_2.out.below (b3)
  have Ss_3 : Hid (rSectors.rd w3 (fun b => b < W.heap.size) [.slice a n c] (s)) := Rep.below Ss_2.out (b3)
  have B_3 : Hid (Below W.heap.size W w3) := on B_2.out (b3)
  clear qs0
  clear Rs_2 Ss_2
  clear h3 b3
  have hns : n = s.length := HN.out.symm
  subst hns
  go_wp2_with (go_at_call 8; refine (num8_u _ _).mono ?_; rintro e w99 ⟨rfl, rfl⟩)
  go_at_call 14
  refine Calls.mono (tfloor_u _ _ s root key _ _ So_3.out HR0.out HR1.out) ?_
  rintro e w4 ⟨rfl, b4⟩
  have Rs_4 : Hid (Row w4 (W.heap.size) 24 [.slice a s.length c]) := Rs_3.out.below (b4)
  have Ss_4 : Hid (rSectors.rd w4 (fun b => b < W.heap.size) [.slice a s.length c] (s)) := Rep.below Ss_3.out (b4)
  have So_4 : Hid (rSectors.rd w4 (fun b => w2.heap.size ≤ b) [.slice ao s.length co] (s)) := Rep.below So_3.out (b4)
  have B_4 : Hid (Below W.heap.size W w4) := on B_3.out (b4)
  clear Rs_3 Ss_3 So_3
  clear b4
  clear So_4
  obtain ⟨X, hX⟩ : ∃ X, X = (Tr.floorOf (Tr.readI s root) key).getD (0, 0) := ⟨_, rfl⟩
  obtain ⟨Y, hY⟩ : ∃ Y, Y = (Tr.floorOf (Tr.readI s root) key).isSome := ⟨_, rfl⟩
  rw [← hX, ← hY]
  have HX : Hid _ := hX
  have HY : Hid _ := hY
  clear hX hY
  obtain ⟨w5, hw5, V5, b5, z5⟩ := boxedRow w4 27 [.int .u64 (X.1.toNat : Int), .int .u64 (X.2.toNat : Int)]
  have Rx_5 : Hid (Row w5 (w4.heap.size) 27 [.int .u64 (X.1.toNat : Int), .int .u64 (X.2.toNat : Int)]) := V5
  have Rs_5 : Hid (Row w5 (W.heap.size) 24 [.slice a s.length c]) := Rs_4.out.below (b5)
  have Ss_5 : Hid (rSectors.rd w5 (fun b => b < W.heap.size) [.slice a s.length c] (s)) := Rep.below Ss_4.out (b5)
  have B_5 : Hid (Below W.heap.size W w5) := on B_4.out (b5)
  clear Rs_4 Ss_4
  clear V5 b5 z5
  have qs0 := Rs_5.out.cell (j := 0) rfl
  go_wp2_with (go_at_call 8; refine (num8_u _ _).mono ?_; rintro e w99 ⟨rfl, rfl⟩)
  go_at_call 7
  refine Calls.mono (of8_u _ _ s a s.length c Ss_5.out) ?_
  rintro e w6 ⟨aq, cq, rfl, h6, b6⟩
  have Sq_6 : Hid (rSectors.rd w6 (fun b => w5.heap.size ≤ b) [.slice aq s.length cq] (s)) := h6
  have Rs_6 : Hid (Row w6 (W.heap.size) 24 [.slice a s.length c]) := Rs_5.out.below (b6)
  have Ss_6 : Hid (rSectors.rd w6 (fun b => b < W.heap.size) [.slice a s.length c] (s)) := Rep.below Ss_5.out (b6)
  have Rx_6 : Hid (Row w6 (w4.heap.size) 27 [.int .u64 (X.1.toNat : Int), .int .u64 (X.2.toNat : Int)]) := Rx_5.out.below (b6)
  have B_6 : Hid (Below W.heap.size W w6) := on B_5.out (b6)
  clear qs0
  clear Rs_5 Ss_5 Rx_5
  clear h6 b6
  have HRg : Hid _ := trange_u _ _ s root 0 1048576 _ _ Sq_6.out HR0.out HR1.out (by decide) (by decide)
  go_wp2_with (go_at_call 8; refine (num8_u _ _).mono ?_; rintro e w99 ⟨rfl, rfl⟩)
  go_at_call 15
  refine Calls.mono (HRg.out) ?_
  rintro e w7 ⟨al, nl, cl, rfl, h7, b7⟩
  have Pl_7 : Hid (OwnI 27 w7 (w6.heap.size) (.slice al nl cl) (Tr.rangeL s root 0 1048576)) := h7
  have Rs_7 : Hid (Row w7 (W.heap.size) 24 [.slice a s.length c]) := Rs_6.out.below (b7)
  have Ss_7 : Hid (rSectors.rd w7 (fun b => b < W.heap.size) [.slice a s.length c] (s)) := Rep.below Ss_6.out (b7)
  have Rx_7 : Hid (Row w7 (w4.heap.size) 27 [.int .u64 (X.1.toNat : Int), .int .u64 (X.2.toNat : Int)]) := Rx_6.out.below (b7)
  have Sq_7 : Hid (rSectors.rd w7 (fun b => w5.heap.size ≤ b) [.slice aq s.length cq] (s)) := Rep.below Sq_6.out (b7)
  have B_7 : Hid (Below W.heap.size W w7) := on B_6.out (b7)
  clear Rs_6 Ss_6 Rx_6 Sq_6
  clear h7 b7 HRg
  clear Sq_7 Ss_7 Rs_7
  rw [show Tr.rangeE s root 1048576 = Tr.readE s root from Tr.rangeE_pos s root]
  by_cases hE : Tr.readE s root = 0
  · rw [hE]
    obtain ⟨l, hl⟩ : ∃ l, l = Tr.readI s root := ⟨_, rfl⟩
    have Ll : Hid (OwnI 27 w7 (w6.heap.size) (.slice al nl cl) l) := by have h := Pl_7.out; rw [Tr.rangeL_all hE, ← hl] at h; exact h
    have HUp : Hid (Tr.Up l) := by unfold Hid; rw [hl]; exact Tr.readI_upF
    have HF5 : Hid (l.length ≤ 6144) := by unfold Hid; rw [hl]; exact Tr.readI_few s root
    have HN2 : Hid (l.length = nl) := by obtain ⟨p, q, e, -⟩ := Ll.out.slice; simp only [Value.slice.injEq] at e; exact e.2.1.symm
    have hn5 : nl ≤ 6144 := by rw [← HN2.out]; exact HF5.out
    rw [← hl] at HX HY
    have HLr : Hid (rItms.rd w7 (fun b => w6.heap.size ≤ b) [.slice al nl cl] l) := Ll.out.rd (by have := HF5.out; omega)
    clear hl hE Pl_7 Ll
    go_wp2_with (go_at_call 8; refine (num8_u _ _).mono ?_; rintro e w99 ⟨rfl, rfl⟩)
    go_loopw [12] (fun i wr => ∃ k : Nat, i = .int .i64 (k : Int) ∧ k ≤ nl ∧ Hid (∀ (j : Nat) (h : j < l.length), j < k → l[j].1.toNat ≤ key.toNat) ∧ Hid (Below w7.heap.size w7 wr)) (fun i _ => ((nl : Int) - intOf i).toNat)
    case atStart => exact ⟨0, rfl, Nat.zero_le _, fun j h h2 => by omega, Below.refl _ _⟩
    case round =>
      obtain ⟨k, rfl, hkn, HA, HB⟩ := hrel
      by_cases hk : k < nl
      · have hkI : (k : Int) < (nl : Int) := by omega
        have hkb : decide ((k : Int) < (nl : Int)) = true := decide_eq_true hkI
        have hk0 : (0 : Int) ≤ (k : Int) := Int.natCast_nonneg _
        have hkl : k < l.length := by rw [HN2.out]; exact hk
        obtain ⟨gi, oi, rfl, -, hgi, hat⟩ := rItms_at HLr.out (by omega)
        obtain ⟨d0, d1⟩ := hat k hkl
        obtain ⟨y, hy⟩ : ∃ y, y = l[k] := ⟨_, rfl⟩
        rw [← hy] at d0 d1
        have y0 := (HB.out.cell (p := ⟨gi, oi + k * 2, none⟩) hgi).trans d0
        have hwk : IntKind.i64.wrap ((k : Int) + 1) = ((k + 1 : Nat) : Int) := by rw [IntKind.wrap_i64]; omega
        have HAt : Hid _ := hat
        have HGi : Hid _ := hgi
        clear hat d0 d1 hgi
        by_cases hle : y.1.toNat ≤ key.toNat
        · have leI : (y.1.toNat : Int) ≤ (key.toNat : Int) := by omega
          have leB : decide ((y.1.toNat : Int) ≤ (key.toNat : Int)) = true := decide_eq_true leI
          have HA2 : Hid (∀ (j : Nat) (h : j < l.length), j < k + 1 → l[j].1.toNat ≤ key.toNat) := fun j h h2 => by
            by_cases e : j = k
            · subst e; rw [← hy]; exact hle
            · exact HA.out j h (by omega)
          clear hy hle HA
          go_wp2
          go_roundw
          case rel => exact ⟨k + 1, by go_num, by omega, HA2, HB⟩
          case measure => simp only [intOf]; omega
        · have leI : ¬ ((y.1.toNat : Int) ≤ (key.toNat : Int)) := by omega
          have leB : decide ((y.1.toNat : Int) ≤ (key.toNat : Int)) = false := decide_eq_false leI
          have HS : Hid (∀ h : k < l.length, key.toNat < l[k].1.toNat) := fun h => by rw [← hy]; omega
          clear hy hle hwk
          have HFl : Hid (Tr.floorOf l key = (l.take k).getLast?) := by unfold Hid Tr.floorOf; rw [Tr.upto_take HUp.out HA.out HS.out]
          have xx0 := (Rx_7.out.below HB.out).cell (j := 0) rfl
          have xx1 := (Rx_7.out.below HB.out).cell (j := 1) rfl
          go_wp2_with fail
          rcases Nat.eq_zero_or_pos k with hz0 | hz0
          · have HX0 : Hid (Y = false) := by unfold Hid; rw [HY.out, HFl.out, hz0]; rfl
            rw [HX0.out]
            have hkz : (k : Int) = 0 := by omega
            have hgn : ¬ (0 < k) := by omega
            have hgI : ¬ ((k : Int) > 0) := by omega
            have hgb : decide ((k : Int) > 0) = false := decide_eq_false hgI
            have hzb : ((k : Int) == 0) = true := beq_iff_eq.2 hkz
            go_region
            go_wp2
            go_ret
            exact ⟨rfl, on B_7.out HB.out.drew⟩
          · obtain ⟨p, hp⟩ : ∃ p, k = p + 1 := ⟨k - 1, by omega⟩
            have hpl : p < l.length := by rw [HN2.out]; omega
            have HFx : Hid (Tr.floorOf l key = some l[p]) := by
              unfold Hid
              rw [HFl.out, hp, List.take_succ_eq_append_getElem hpl, List.getLast?_append]
              rfl
            have HX1 : Hid (X = l[p]) := by unfold Hid; rw [HX.out, HFx.out]; rfl
            have HY1 : Hid (Y = true) := by unfold Hid; rw [HY.out, HFx.out]; rfl
            rw [HY1.out]
            obtain ⟨d0, d1⟩ := HAt.out p hpl
            rw [← HX1.out] at d0 d1
            have v0 := (HB.out.cell (p := ⟨gi, oi + p * 2, none⟩) HGi.out).trans d0
            have v1 := (HB.out.cell (p := ⟨gi, oi + p * 2 + 1, none⟩) HGi.out).trans d1
            have hgt : (k : Int) > 0 := by omega
            have hgb : decide ((k : Int) > 0) = true := decide_eq_true hgt
            have hgn : 0 < k := hz0
            have hne : ¬ ((k : Int) = 0) := by omega
            have hnb : ((k : Int) == 0) = false := beq_eq_false_iff_ne.2 hne
            have hnn : ¬ (k = 0) := by omega
            have hwk : IntKind.i64.wrap ((k : Int) - 1) = (p : Int) := by rw [IntKind.wrap_i64]; omega
            have hp0 : (0 : Int) ≤ (p : Int) := Int.natCast_nonneg _
            have hpn : (p : Int) < (nl : Int) := by omega
            have eX0 : ((X.1.toNat : Int) == (X.1.toNat : Int)) = true := beq_self_eq_true _
            have eX1 : ((X.2.toNat : Int) == (X.2.toNat : Int)) = true := beq_self_eq_true _
            clear d0 d1 hp hz0
            go_region
            go_wp2
            go_ret
            exact ⟨rfl, on B_7.out HB.out.drew⟩
      · have hkI : ¬ ((k : Int) < (nl : Int)) := by omega
        have hkb : decide ((k : Int) < (nl : Int)) = false := decide_eq_false hkI
        have HS : Hid (∀ h : k < l.length, key.toNat < l[k].1.toNat) := fun h => absurd (by rw [← HN2.out]; exact h) hk
        have HFl : Hid (Tr.floorOf l key = (l.take k).getLast?) := by unfold Hid Tr.floorOf; rw [Tr.upto_take HUp.out HA.out HS.out]
        have xx0 := (Rx_7.out.below HB.out).cell (j := 0) rfl
        have xx1 := (Rx_7.out.below HB.out).cell (j := 1) rfl
        go_wp2_with fail
        rcases Nat.eq_zero_or_pos k with hz0 | hz0
        · have HX0 : Hid (Y = false) := by unfold Hid; rw [HY.out, HFl.out, hz0]; rfl
          rw [HX0.out]
          have hkz : (k : Int) = 0 := by omega
          have hgn : ¬ (0 < k) := by omega
          have hgI : ¬ ((k : Int) > 0) := by omega
          have hgb : decide ((k : Int) > 0) = false := decide_eq_false hgI
          have hzb : ((k : Int) == 0) = true := beq_iff_eq.2 hkz
          go_region
          go_wp2
          go_ret
          exact ⟨rfl, on B_7.out HB.out.drew⟩
        · obtain ⟨p, hp⟩ : ∃ p, k = p + 1 := ⟨k - 1, by omega⟩
          have hpl : p < l.length := by rw [HN2.out]; omega
          have HFx : Hid (Tr.floorOf l key = some l[p]) := by
            unfold Hid
            rw [HFl.out, hp, List.take_succ_eq_append_getElem hpl, List.getLast?_append]
            rfl
          have HX1 : Hid (X = l[p]) := by unfold Hid; rw [HX.out, HFx.out]; rfl
          have HY1 : Hid (Y = true) := by unfold Hid; rw [HY.out, HFx.out]; rfl
          rw [HY1.out]
          obtain ⟨gi, oi, rfl, -, hgi, hat⟩ := rItms_at HLr.out (by omega)
          have HAt : Hid _ := hat
          have HGi : Hid _ := hgi
          clear hat hgi
          obtain ⟨d0, d1⟩ := HAt.out p hpl
          rw [← HX1.out] at d0 d1
          have v0 := (HB.out.cell (p := ⟨gi, oi + p * 2, none⟩) HGi.out).trans d0
          have v1 := (HB.out.cell (p := ⟨gi, oi + p * 2 + 1, none⟩) HGi.out).trans d1
          have hgt : (k : Int) > 0 := by omega
          have hgb : decide ((k : Int) > 0) = true := decide_eq_true hgt
          have hgn : 0 < k := hz0
          have hne : ¬ ((k : Int) = 0) := by omega
          have hnb : ((k : Int) == 0) = false := beq_eq_false_iff_ne.2 hne
          have hnn : ¬ (k = 0) := by omega
          have hwk : IntKind.i64.wrap ((k : Int) - 1) = (p : Int) := by rw [IntKind.wrap_i64]; omega
          have hp0 : (0 : Int) ≤ (p : Int) := Int.natCast_nonneg _
          have hpn : (p : Int) < (nl : Int) := by omega
          have eX0 : ((X.1.toNat : Int) == (X.1.toNat : Int)) = true := beq_self_eq_true _
          have eX1 : ((X.2.toNat : Int) == (X.2.toNat : Int)) = true := beq_self_eq_true _
          clear d0 d1 hp hz0
          go_region
          go_wp2
          go_ret
          exact ⟨rfl, on B_7.out HB.out.drew⟩
  · have hEb : (Tr.readE s root == 0) = false := beq_eq_false_iff_ne.2 hE
    have eE : (Tr.readE s root == Tr.readE s root) = true := beq_self_eq_true _
    have HY0 : Hid (Y = false) := by unfold Hid; rw [HY.out, Tr.readI_bad hE]; rfl
    rw [HY0.out]
    obtain rfl : nl = 0 := by
      obtain ⟨p, q, e, -⟩ := Pl_7.out.slice
      simp only [Value.slice.injEq] at e
      rw [e.2.1, Tr.rangeL_none hE]
      rfl
    go_wp2_with (go_at_call 8; refine (num8_u _ _).mono ?_; rintro e w99 ⟨rfl, rfl⟩)
    go_ret
    exact ⟨rfl, B_7.out⟩
set_option maxRecDepth 100000 in
theorem tfloors_lifted (os : Os) (started : os.Started) (H : Type) (enc : TypeId × Value → H) :
    ReturnsInHanded {} Tryz.checked os 4 .any (Rows.treeFloorsSpec.pre6 enc Tryz.prog Tryz.f4 Rows.treeFloorsRow.domain false) (Rows.treeFloorsSpec.post enc Tryz.prog Tryz.f4 false true false false) := by
  refine returnsInHanded_of_change_sized (C := Tryz.checked) own started (by kernel_rfl) Tryz.func4
    (ChangeSpec.witness6 (enc := enc) (C := Tryz.checked) false ⟨#[], #[.agg #[.slice none 0 0], .int .i64 0, .int .u64 0], []⟩ 8 (by kernel_rfl) (by kernel_rfl) (by kernel_rfl) (by kernel_rfl)) ?_
  intro W base args ds gs before hval0 hW _ hsz0 _
  have hsz : (DataW.weightsEach Tryz.prog (Tryz.f4.params.toList ++ Rows.treeFloorsSpec.plain.varTypes Tryz.prog) (ds ++ gs)).all (· ≤ reachBytes) = true := hsz0
  clear hsz0
  have hval : ∀ (j : Nat) t v, Tryz.f4.params[j]? = some t → args[j]? = some v → Value.okWide Tryz.prog W .any base t v := hval0
  have hW' := hW
  obtain ⟨p, q, hA0, hV, rfl, hfz, hnd⟩ := hW
  have hA : DataW.TrodAll enc Tryz.prog W 0 (fun _ => true) true Tryz.f4.params.toList args.toList ds p := hA0
  rw [Tryz.params4] at hA hval hsz
  obtain ⟨v0, vs0, d0, ds0, p0, q0, hargs, rfl, rfl, h0, r0⟩ := trodAll_cons hA
  obtain ⟨v1, vs1, d1, ds1, p1, q1, rfl, rfl, rfl, h1, r1⟩ := trodAll_cons r0
  obtain ⟨v2, vs2, d2, ds2, p2, q2, rfl, rfl, rfl, h2, r2⟩ := trodAll_cons r1
  obtain ⟨rfl, rfl, rfl⟩ := trodAll_nil r2
  obtain rfl : args = #[v0, v1, v2] := by cases args; simp_all
  obtain ⟨rfl, rfl⟩ := trodVars_none hV
  obtain ⟨c0, rfl, -⟩ := okWide_struct Tryz.underlying24 (hval 0 24 v0 rfl rfl)
  have k0 := h0
  have lt0 : ∀ x ∈ p0, x.block < W.heap.size := by obtain ⟨m, hm⟩ := k0; exact DataW.trod_lt m _ _ _ hm
  obtain ⟨x0, hx0⟩ := opens_pages.arg h0 hsz (j := 0) rfl rfl
  obtain ⟨a1, rfl, rfl, rfl, w1⟩ := open_int Tryz.underlying3 (hval 1 3 v1 rfl rfl) h1
  have i1 := bounds_i64 w1
  obtain ⟨a2, rfl, rfl, rfl, w2⟩ := open_int Tryz.underlying25 (hval 2 25 v2 rfl rfl) h2
  have i2 := bounds_u64 w2
  clear hA0 hval0
  refine (tfloors_walk c0.toList x0 a1 a2 W hx0 (by omega) (by omega) (by omega) (by omega)).mono fun e W' ⟨he, bel⟩ => ?_
  subst he
  exact ⟨_, rfl, _, _, _, [], _, [], hW', trodAll_mk1 (shut_bool Tryz.underlying4 _), (trodAll_cons_mk (Below.trod laidOut (by kernel_rfl) (of_decide_eq_true (by kernel_rfl)) k0 bel lt0) (trodAll_cons_mk (shut_int Tryz.underlying3 w1) (trodAll_cons_mk (shut_int Tryz.underlying25 w2) trodAll_mk0))), rfl, bel.frame _, fun h => by cases h⟩
theorem treeFloors_holds : Rows.TreeFloorsSaid :=
  OpenClaim.holds_of_wide 4 Tryz.f4 rfl rfl rfl rfl rfl rfl rfl ⟨rfl, rfl, rfl, rfl, rfl⟩ rfl rfl rfl rfl rfl (by kernel_rfl) Tryz.func4 (by kernel_rfl)
    (of_decide_eq_true (by kernel_rfl)) (by unfold Func.isWrapper; first | (rw [if_pos (by decide +kernel)]; kernel_rfl) | (rw [if_neg (by decide +kernel)]; exact ⟨rfl, rfl⟩))
    (fun os started H enc _ => tfloors_lifted os started H enc)
end Go.Proofs.YtgbbkmdfangmmabGreat
