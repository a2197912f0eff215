/-
  Facts that the proof rests on, part 22. Conditions: those that each of them names.
-/
import Derived.BigQuiet
import Derived.Deep.QuietTactic
import Derived.Test.YtflcojljpbojlaaM00
import Derived.Test.YtflcojljpbojlaaM02
import Derived.Test.YtflcojljpbojlaaM03
import Derived.Test.YtflcojljpbojlaaM10
namespace Go.Proofs.Ytflcojljpbojlaa
open Go.RowKit
set_option linter.unusedVariables false
set_option maxHeartbeats 800000 in
theorem sameList_r (w : World) (P Q : Nat → Prop) (a b : Option Addr) (n c m d : Nat) (L K : List (List UInt8)) (hA : rSectors.rd w P [.slice a n c] L) (hB : rSectors.rd w Q [.slice b m d] K) :
    Calls Try.prog 24 #[.slice a n c, .slice b m d] w fun e w' => e = .returned (.bool (L == K)) ∧ Below w.heap.size w w' := by
  obtain ⟨hn, hn2⟩ := rSectors_len hA
  obtain ⟨hm, hm2⟩ := rSectors_len hB
  have HN : Hid _ := hn
  have HM : Hid _ := hm
  clear hn hm
  by_cases hnm : n = m
  case neg =>
    have hf : (L == K) = false := beq_eq_false_iff_ne.2 (fun e => hnm (by rw [← HN.out, ← HM.out, e]))
    have hne : ((n : Int) != (m : Int)) = true := bne_iff_ne.2 (by omega)
    rw [hf]
    go_enter Try.func24, Try.ntmps24
    go_wp2
    go_ret
    exact ⟨rfl, Below.refl _ _⟩
  subst hnm
  go_enter Try.func24, Try.ntmps24
  go_wp2
  go_loopw [5] (fun i wr => ∃ k : Nat, k ≤ n ∧ i = .int .i64 k ∧ Hid (L.take k = K.take k) ∧ Below w.heap.size w wr) (fun i _ => n - (intOf i).toNat)
  case atStart => exact ⟨0, Nat.zero_le _, rfl, by unfold Hid; simp, Below.refl _ _⟩
  case round =>
    obtain ⟨k, hk, rfl, HK, bel⟩ := hrel
    by_cases hlt : k < n
    · have hAr := Rep.below hA bel
      have hBr := Rep.below hB bel
      obtain ⟨g, off, rfl, -, -, hat⟩ := rLists_at hAr (by omega)
      obtain ⟨g', off', rfl, -, -, hbt⟩ := rLists_at hBr (by omega)
      have hkl : k < L.length := by rw [HN.out]; exact hlt
      have hkk : k < K.length := by rw [HM.out]; exact hlt
      obtain ⟨x, l, e, hx, -, hcell⟩ := hat k hkl
      obtain ⟨x', l', e', hx', -, hcell'⟩ := hbt k hkk
      have e1 := conv_bytes wr.drew x l e _ (rBytes_isB hx).1
      have e2 := conv_bytes wr.drew x' l' e' _ (rBytes_isB hx').1
      have HNX : Hid (L.take (k + 1) = L.take k ++ [L[k]]) := List.take_succ_eq_append_getElem hkl
      have HNK : Hid (K.take (k + 1) = K.take k ++ [K[k]]) := List.take_succ_eq_append_getElem hkk
      have HNE : Hid (L[k] ≠ K[k] → L ≠ K) := fun h e => h (by subst e; rfl)
      clear hat hbt hx hx' hAr hBr
      generalize L[k] = X at *
      generalize K[k] = Y at *
      go_wp2
      go_cut [27] (fun t wx => t = .bool (X != Y) ∧ wx = wr.drew)
      case first =>
        go_region_with fail
        all_goals (try go_wp2_with fail)
        all_goals go_meet
        all_goals exact ⟨rfl, rfl⟩
      case rest =>
        obtain ⟨rfl, rfl⟩ := hcut
        clear e1 e2 hcell hcell'
        by_cases hxy : X = Y
        · have hne : (X != Y) = false := by rw [hxy]; exact bne_self_eq_false _
          have HXY : Hid _ := hxy
          rw [hne]
          clear hxy hne
          go_wp2
          go_roundw
          case rel => exact ⟨k + 1, by omega, by go_num, by unfold Hid; rw [HNX.out, HNK.out, HK.out, HXY.out], bel.drew⟩
          case measure => simp [intOf]; omega
        · have hne : (X != Y) = true := bne_iff_ne.2 hxy
          have HF : Hid ((L == K) = false) := beq_eq_false_iff_ne.2 (HNE.out hxy)
          rw [hne]
          clear hxy hne
          go_wp2
          go_ret
          exact ⟨by rw [HF.out]; rfl, bel.drew⟩
    · obtain rfl : k = n := by omega
      have e : L = K := by
        have := HK.out
        rwa [List.take_of_length_le (by rw [HN.out]; exact Nat.le_refl _), List.take_of_length_le (by rw [HM.out]; exact Nat.le_refl _)] at this
      have E : Hid _ := e
      clear e
      go_wp2
      go_ret
      exact ⟨by rw [E.out]; simp, bel⟩
end Go.Proofs.Ytflcojljpbojlaa
namespace Go.Proofs.Ytflcojljpbojlaa
open Go.RowKit
set_option linter.unusedVariables false
set_option maxRecDepth 20000 in
set_option maxHeartbeats 800000 in
theorem sameList_q (w : World) (P Q : Nat → Prop) (a b : Option Addr) (n c m d : Nat) (L K : List (List UInt8)) (hA : rSectors.rd w P [.slice a n c] L) (hB : rSectors.rd w Q [.slice b m d] K) :
    Calls Try.prog 24 #[.slice a n c, .slice b m d] w fun e w' => e = .returned (.bool (L == K)) ∧ ∃ q, w' = w.drewN q := by
  obtain ⟨hn, hn2⟩ := rSectors_len hA
  obtain ⟨hm, hm2⟩ := rSectors_len hB
  have HN : Hid _ := hn
  have HM : Hid _ := hm
  clear hn hm
  by_cases hnm : n = m
  case neg =>
    have hf : (L == K) = false := beq_eq_false_iff_ne.2 (fun e => hnm (by rw [← HN.out, ← HM.out, e]))
    have hne : ((n : Int) != (m : Int)) = true := bne_iff_ne.2 (by omega)
    rw [hf]
    go_enter Try.func24, Try.ntmps24
    go_wp2
    go_ret
    exact ⟨rfl, 0, rfl⟩
  subst hnm
  go_enter Try.func24, Try.ntmps24
  go_wp2
  go_loopw [5] (fun i wr => ∃ k : Nat, k ≤ n ∧ i = .int .i64 k ∧ Hid (L.take k = K.take k) ∧ Hid (∃ q, wr = w.drewN q) ∧ Below w.heap.size w wr) (fun i _ => n - (intOf i).toNat)
  case atStart => exact ⟨0, Nat.zero_le _, rfl, by unfold Hid; simp, ⟨0, rfl⟩, Below.refl _ _⟩
  case round =>
    obtain ⟨k, hk, rfl, HK, HQ, bel⟩ := hrel
    have HQ2 : Hid (∃ q, wr.drew = w.drewN q) := by
      obtain ⟨q, hq⟩ := HQ.out
      exact ⟨q + 1, by rw [hq]; rfl⟩
    by_cases hlt : k < n
    · have hAr := Rep.below hA bel
      have hBr := Rep.below hB bel
      obtain ⟨g, off, rfl, -, -, hat⟩ := rLists_at hAr (by omega)
      obtain ⟨g', off', rfl, -, -, hbt⟩ := rLists_at hBr (by omega)
      have hkl : k < L.length := by rw [HN.out]; exact hlt
      have hkk : k < K.length := by rw [HM.out]; exact hlt
      obtain ⟨x, l, e, hx, -, hcell⟩ := hat k hkl
      obtain ⟨x', l', e', hx', -, hcell'⟩ := hbt k hkk
      have e1 := conv_bytes wr.drew x l e _ (rBytes_isB hx).1
      have e2 := conv_bytes wr.drew x' l' e' _ (rBytes_isB hx').1
      have HNX : Hid (L.take (k + 1) = L.take k ++ [L[k]]) := List.take_succ_eq_append_getElem hkl
      have HNK : Hid (K.take (k + 1) = K.take k ++ [K[k]]) := List.take_succ_eq_append_getElem hkk
      have HNE : Hid (L[k] ≠ K[k] → L ≠ K) := fun h e => h (by subst e; rfl)
      clear hat hbt hx hx' hAr hBr
      generalize L[k] = X at *
      generalize K[k] = Y at *
      go_wp2
      go_cut [27] (fun t wx => t = .bool (X != Y) ∧ wx = wr.drew)
      case first =>
        go_region_with fail
        all_goals (try go_wp2_with fail)
        all_goals go_meet
        all_goals exact ⟨rfl, rfl⟩
      case rest =>
        obtain ⟨rfl, rfl⟩ := hcut
        clear e1 e2 hcell hcell'
        by_cases hxy : X = Y
        · have hne : (X != Y) = false := by rw [hxy]; exact bne_self_eq_false _
          have HXY : Hid _ := hxy
          rw [hne]
          clear hxy hne
          go_wp2
          go_roundw
          case rel => exact ⟨k + 1, by omega, by go_num, by unfold Hid; rw [HNX.out, HNK.out, HK.out, HXY.out], HQ2, bel.drew⟩
          case measure => simp [intOf]; omega
        · have hne : (X != Y) = true := bne_iff_ne.2 hxy
          have HF : Hid ((L == K) = false) := beq_eq_false_iff_ne.2 (HNE.out hxy)
          rw [hne]
          clear hxy hne
          go_wp2
          go_ret
          exact ⟨by rw [HF.out]; rfl, HQ2.out⟩
    · obtain rfl : k = n := by omega
      have e : L = K := by
        have := HK.out
        rwa [List.take_of_length_le (by rw [HN.out]; exact Nat.le_refl _), List.take_of_length_le (by rw [HM.out]; exact Nat.le_refl _)] at this
      have E : Hid _ := e
      clear e
      go_wp2
      go_ret
      exact ⟨by rw [E.out]; simp, HQ.out⟩
set_option maxRecDepth 20000 in
set_option maxHeartbeats 8000000 in
theorem alike10_u (w : World) (P Q : Nat → Prop) (cs ds : List Value) (s : Sta) (hS : rSta.rd w P cs s) (hT : rSta.rd w Q ds s) :
    Calls Try.prog 13 #[.agg cs.toArray, .agg ds.toArray] w fun e w' => e = .returned (.int .i64 0) ∧ Below w.heap.size w w' := by
  obtain ⟨a, n, c, b, m, d, rfl, hA, hL, hi⟩ := rSta_cells hS
  obtain ⟨a', n', c', b', m', d', rfl, hA', hL', -⟩ := rSta_cells hT
  obtain rfl : n = n' := by rw [← (rL_len hA).1, ← (rL_len hA').1]
  obtain rfl : m = m' := by rw [← (rL_len hL).1, ← (rL_len hL').1]
  obtain ⟨D, l, next⟩ := s
  simp only at hA hA' hL hL' hi
  have HM : Hid (l.length = m) := (rL_len hL).1
  have hm0 : m ≤ 5864062014634 := by have : m * 24 ≤ 140737488351232 := by { have := (rL_len hL).2.2.2; exact Nat.le_trans (Nat.mul_le_mul_left m (by decide)) this }; omega
  obtain ⟨w0, hw0, V0, b0, z0⟩ := boxedRow w 31 [.slice a n c, .slice b m d, .int .i64 next]
  obtain ⟨w1, hw1, V1, b1, z1⟩ := boxedRow w0 25 [.slice a' n c', .slice b' m d', .int .i64 next]
  have X1 : Hid (Row w1 w.heap.size 31 [.slice a n c, .slice b m d, .int .i64 next]) := V0.below b1
  have Y1 : Hid (Row w1 w0.heap.size 25 [.slice a' n c', .slice b' m d', .int .i64 next]) := V1
  have B1 : Hid (Below w.heap.size w w1) := on b0 b1
  have HA1 : Hid (rSectors.rd w1 P [.slice a n c] D) := Rep.below hA B1.out
  have HB1 : Hid (rSectors.rd w1 Q [.slice a' n c'] D) := Rep.below hA' B1.out
  have HL1 : Hid (rSnps.rd w1 P [.slice b m d] l) := Rep.below hL B1.out
  have HK1 : Hid (rSnps.rd w1 Q [.slice b' m d'] l) := Rep.below hL' B1.out
  have q0 := X1.out.cell (j := 0) rfl
  have q1 := X1.out.cell (j := 1) rfl
  have q2 := X1.out.cell (j := 2) rfl
  have r0 := Y1.out.cell (j := 0) rfl
  have r1 := Y1.out.cell (j := 1) rfl
  have r2 := Y1.out.cell (j := 2) rfl
  clear hS hT V0 V1 b0 b1 z0 z1 hA hA' hL hL'
  go_enter Try.func13, Try.ntmps13
  go_wp2_with (go_at_call 24; refine (sameList_r _ _ _ a a' n c n c' D D HA1.out HB1.out).mono ?_; rintro e w2 ⟨rfl, b2⟩; rw [beq_self_eq_true]; have X2 : Hid _ := X1.out.below b2; have Y2 : Hid _ := Y1.out.below b2; have s1 := X2.out.cell (j := 1) rfl; have t1 := Y2.out.cell (j := 1) rfl)
  have B2 : Hid (Below w1.heap.size w1 w2) := b2
  clear q0 q1 q2 r0 r1 r2 hw0 hw1 s1 t1 b2
  go_loopw [5] (fun i wr => ∃ k : Nat, k ≤ m ∧ i = .int .i64 k ∧ Below w2.heap.size w2 wr) (fun i _ => m - (intOf i).toNat)
  case atStart => exact ⟨0, Nat.zero_le _, rfl, Below.refl _ _⟩
  case round =>
    obtain ⟨k, hk, rfl, bk⟩ := hrel
    have s1 := (X2.out.below bk).cell (j := 1) rfl
    have t1 := (Y2.out.below bk).cell (j := 1) rfl
    have BK : Hid (Below w2.heap.size w2 wr) := bk
    by_cases hlt : k < m
    · have hkl : k < l.length := by rw [HM.out]; exact hlt
      obtain ⟨g, off, rfl, -, hgl, hat⟩ := rSnps_at (Rep.below HL1.out (on B2.out bk)) (by omega)
      obtain ⟨g', off', rfl, -, hgl', hbt⟩ := rSnps_at (Rep.below HK1.out (on B2.out bk)) (by omega)
      obtain ⟨x, xm, xd, hx, -, c0, c1, c2, -, hs⟩ := hat k hkl
      obtain ⟨x', xm', xd', hx', -, d0, d1, d2, -, -⟩ := hbt k hkl
      have HX : Hid _ := hx
      have HX' : Hid _ := hx'
      have hI : (k : Int) < (m : Int) := by omega
      clear hat hbt hx hx' bk
      generalize l[k].1 = id at *
      generalize l[k].2.1 = nm at *
      generalize l[k].2.2 = Y at *
      have e1 : (id != id) = false := bne_self_eq_false _
      have e2 : (nm.toList != nm.toList) = false := bne_self_eq_false _
      have HSAME : Hid (∀ nn, Calls Try.prog 24 #[.slice x xm xd, .slice x' xm' xd'] (wr.drewN nn) fun e w' => e = .returned (.bool true) ∧ ∃ q, w' = (wr.drewN nn).drewN q) := by
        intro nn
        refine (sameList_q (wr.drewN nn) _ _ x x' xm xd xm' xd' Y Y (rSectors.keep HX.out (fun _ _ _ => rfl)) (rSectors.keep HX'.out (fun _ _ _ => rfl))).mono ?_
        rintro e w' ⟨rfl, q, rfl⟩
        exact ⟨by rw [beq_self_eq_true], q, rfl⟩
      go_wp2_with fail
      go_quiet ((go_at_call 24; exact Calls.quiet_of (HSAME.out _)))
      go_wp2
      go_roundw
      case rel => exact ⟨k + 1, by omega, by go_num, below_drewN BK.out _⟩
      case measure => simp [intOf]; omega
    · obtain rfl : k = m := by omega
      go_wp2
      go_ret
      exact ⟨rfl, on B1.out (on B2.out BK.out)⟩
end Go.Proofs.Ytflcojljpbojlaa
namespace Go.Proofs.Ytflcojljpbojlaa
open Go.RowKit
set_option linter.unusedVariables false
theorem sameBytes_any (w : World) (a b : Option Addr) (n c m d : Nat) (l k : List UInt8) (ha : IsB w a n l) (hb : IsB w b m k) :
    Calls Try.prog 18 #[.slice a n c, .slice b m d] w fun e w' => e = .returned (.bool (l == k)) ∧ w = w' := by
  have e1 := conv_bytes w a n c l ha
  have e2 := conv_bytes w b m d k hb
  clear ha hb
  go_enter Try.func18, Try.ntmps18
  go_wp2
  go_ret
  exact ⟨rfl, rfl⟩
end Go.Proofs.Ytflcojljpbojlaa
