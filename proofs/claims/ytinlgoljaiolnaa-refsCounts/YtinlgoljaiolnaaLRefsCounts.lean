/-
  A sector is referred to as often as there are references into it, and is used just if there is one: at whatever maps and place. Conditions: none.
-/
import Derived.Test.YtinlgoljaiolnaaNBox
import Derived.Test.YtinlgoljaiolnaaNUsed
import Derived.Test.YtinlgoljaiolnaaNLaw2
namespace Go.Proofs.Ytinlgoljaiolnaa
open Go.ChangeShapes Go.WideShapes Go.ChangeAt Go.RowKit
set_option linter.unusedVariables false

theorem Rf.all_nine {M : List Mpr} (h : ¬ Rf.whoE allS M = 0) (x : Spn) : Rf.whoE allS M = 9 ∧ Rf.whoE x M = 9 := by
  have hC : ¬ Rf.checkM M = 0 := fun e => h (Rf.whoE_zero.2 ⟨e, by decide, by decide⟩)
  exact ⟨Rf.whoE_nine hC, Rf.whoE_nine hC⟩

set_option maxRecDepth 20000 in
set_option maxHeartbeats 8000000 in
theorem lcounts_walk (a : Option Addr) (n c : Nat) (M : List Mpr) (d : Int) (W : World) (h0 : rMps.rd W (fun b => b < W.heap.size) [.slice a n c] M) (hd0 : -9223372036854775808 ≤ d) (hd1 : d ≤ 9223372036854775807) :
    Calls Try.prog 6 #[.slice a n c, .int .i64 d] W fun e W' => e = .returned (.bool true) ∧ Below W.heap.size W W' := by
  have HMW : Hid (rMps.rd W (fun b => b < W.heap.size) [.slice a n c] M) := h0
  have ht1 := Int.tmod_lt_of_pos d (show (0 : Int) < 65536 by decide)
  have ht2 := Int.lt_tmod_of_pos d (show (0 : Int) < 65536 by decide)
  obtain ⟨T, hT⟩ : ∃ T, d.tmod 65536 = T := ⟨_, rfl⟩
  rw [hT] at ht1 ht2
  obtain ⟨p, hp, hp0, hp1⟩ : ∃ p, (T + 65536).tmod 65536 = p ∧ 0 ≤ p ∧ p < 65536 := ⟨_, rfl, Int.tmod_nonneg _ (by omega), Int.tmod_lt_of_pos _ (by omega)⟩
  have wT : wrap64 (T + 65536) = T + 65536 := by unfold wrap64; omega
  clear h0
  go_enter Try.func6, Try.ntmps6
  go_wp2_with fail
  refine (alive9_u _).mono ?_
  rintro e w1 ⟨rfl, b1⟩
  have B1 : Hid (Below W.heap.size W w1) := b1
  clear b1
  go_wp2_with fail
  refine (of9_u _ _ (fun b hb => Nat.lt_of_lt_of_le hb B1.out.size) _ _ _ M (Rep.below HMW.out B1.out)).mono ?_
  rintro e w2 ⟨a2, c2, rfl, hr2, b2⟩
  have HM2 : Hid (rMps.rd w2 (fun b => w1.heap.size ≤ b) [.slice a2 n c2] M) := hr2
  have B2 : Hid (Below W.heap.size W w2) := on B1.out b2
  have N2 : Hid (Below w1.heap.size w1 w2) := b2
  clear hr2 b2
  go_wp2_with fail
  refine (refsCounts_u _ _ _ _ _ M HM2.out).mono ?_
  rintro e w3 ⟨v3, rfl, ho3, b3⟩
  obtain ⟨a3, c3, rfl, -, -⟩ := ho3.slice
  have HO3 : Hid (OwnE 56 w3 w2.heap.size _ _) := ho3
  have B3 : Hid (Below W.heap.size W w3) := on B2.out b3
  have N3 : Hid (Below w2.heap.size w2 w3) := b3
  clear ho3 b3
  go_wp2_with fail
  refine (of9_u _ _ (fun b hb => Nat.lt_of_lt_of_le hb B3.out.size) _ _ _ M (Rep.below HMW.out B3.out)).mono ?_
  rintro e w4 ⟨a4, c4, rfl, hr4, b4⟩
  have HM4 : Hid (rMps.rd w4 (fun b => w3.heap.size ≤ b) [.slice a4 n c4] M) := hr4
  have B4 : Hid (Below W.heap.size W w4) := on B3.out b4
  have N4 : Hid (Below w3.heap.size w3 w4) := b4
  clear hr4 b4
  go_wp2_with fail
  refine (refsWho_u _ _ _ _ _ M HM4.out (p, 1) (by unfold In2 In64; simp only; omega)).mono ?_
  rintro e w5 ⟨v5, rfl, ho5, b5⟩
  obtain ⟨a5, c5, rfl, -, -⟩ := ho5.slice
  have HO5 : Hid (OwnR 63 w5 w4.heap.size _ _) := ho5
  have B5 : Hid (Below W.heap.size W w5) := on B4.out b5
  have N5 : Hid (Below w4.heap.size w4 w5) := b5
  clear ho5 b5
  go_wp2_with fail
  refine (of9_u _ _ (fun b hb => Nat.lt_of_lt_of_le hb B5.out.size) _ _ _ M (Rep.below HMW.out B5.out)).mono ?_
  rintro e w6 ⟨a6, c6, rfl, hr6, b6⟩
  have HM6 : Hid (rMps.rd w6 (fun b => w5.heap.size ≤ b) [.slice a6 n c6] M) := hr6
  have B6 : Hid (Below W.heap.size W w6) := on B5.out b6
  have N6 : Hid (Below w5.heap.size w5 w6) := b6
  clear hr6 b6
  go_wp2_with fail
  refine (refsUsed_u _ _ _ _ _ M HM6.out).mono ?_
  rintro e w7 ⟨v7, rfl, ho7, b7⟩
  obtain ⟨a7, c7, rfl, -, -⟩ := ho7.slice
  have HO7 : Hid (OwnS 24 w7 w6.heap.size _ _) := ho7
  have B7 : Hid (Below W.heap.size W w7) := on B6.out b7
  have N7 : Hid (Below w6.heap.size w6 w7) := b7
  clear ho7 b7
  clear hT hp wT ht1 ht2 hd0 hd1
  by_cases hE : Rf.whoE allS M = 0
  · have hC := (Rf.whoE_zero.1 hE).1
    have hE1 : Rf.whoE (p, 1) M = 0 := Rf.whoE_zero.2 ⟨hC, hp0, Int.le_refl _⟩
    obtain ⟨s1, s2⟩ := Rf.counts_said hC p
    have hlow := Rf.who_low (x := allS) hC
    have hfew := Rf.who_few (x := allS) hC
    have HCin : Hid (∀ y ∈ Rf.countsD (Rf.whoR allS M), Rf.Cin y) := Rf.counts_in hlow hfew
    have hcf := Rf.counts_few hlow hfew
    have huf := Rf.used_len (Rf.countsD (Rf.whoR allS M)) []
    have HUin : Hid (∀ y ∈ Rf.usedC (Rf.countsD (Rf.whoR allS M)), Rf.Sin y) := Rf.used_sin HCin.out (fun y hy => by cases hy)
    have hwf := Rf.who_few (x := (p, 1)) hC
    have HO3' : Hid (OwnE 56 w7 w2.heap.size (.slice a3 (Rf.cntL allS M).length c3) (Rf.cntL allS M)) := (((HO3.out.below N4.out).below N5.out).below N6.out).below N7.out
    rw [Rf.cntL_ok hE] at HO3' ⊢
    rw [Rf.useL_ok hE] at HO7 ⊢
    rw [Rf.whoL_ok hE1, hE, hE1]
    change Rf.sumAt p (Rf.countsD (Rf.whoR allS M)) = _ at s1
    change (∃ x ∈ Rf.usedC (Rf.countsD (Rf.whoR allS M)), Ex.inSpan x p) ↔ _ at s2
    change (Rf.usedC (Rf.countsD (Rf.whoR allS M))).length ≤ _ at huf
    generalize hCC : Rf.countsD (Rf.whoR allS M) = C at *
    generalize hUU : Rf.usedC C = U at *
    obtain ⟨m, hm⟩ : ∃ m, m = C.length := ⟨_, rfl⟩
    obtain ⟨mu, hmu⟩ : ∃ mu, mu = U.length := ⟨_, rfl⟩
    obtain ⟨mw, hmw⟩ : ∃ mw, mw = (Rf.whoR (p, 1) M).length := ⟨_, rfl⟩
    have HML : Hid (C.length = m) := hm.symm
    have HMU : Hid (U.length = mu) := hmu.symm
    simp only [List.length_nil, Nat.zero_add] at huf
    rw [← hm] at HO3' hcf huf ⊢
    rw [← hmu] at HO7 huf ⊢
    rw [← hmw] at s1 s2 hwf ⊢
    have HS1 : Hid (Rf.sumAt p C = (mw : Int)) := s1
    have HS2 : Hid ((∃ x ∈ U, Ex.inSpan x p) ↔ 0 < mw) := s2
    have HC3 : Hid (rExts.rd w7 (fun b => w2.heap.size ≤ b) [.slice a3 m c3] C) := HO3'.out.rd (by rw [HML.out]; omega)
    have HU3 : Hid (rSpns.rd w7 (fun b => w6.heap.size ≤ b) [.slice a7 mu c7] U) := HO7.out.rd (by rw [HMU.out]; omega)
    have hmu2 : mu ≤ 65537 := by omega
    clear hE hE1 hC s1 s2 hlow hfew huf hCC hUU hm hmu hmw HO3 HO5 HO7 HO3' N2 N3 N4 N5 N6 N7 HM2 HM4 HM6
    go_wp2_with (go_at_call 21; refine (num9_u _ _).mono ?_; rintro e w99 ⟨rfl, rfl⟩)
    go_loopw [11, 12] (fun s i wr => ∃ k : Nat, k ≤ m ∧ i = .int .i64 k ∧ s = .int .i64 (Rf.sumAt p (C.take k)) ∧ Below w7.heap.size w7 wr) (fun _ i _ => m - (intOf i).toNat)
    case atStart => exact ⟨0, Nat.zero_le _, rfl, rfl, Below.refl _ _⟩
    case round =>
      obtain ⟨k, hk, rfl, rfl, bel⟩ := hrel
      by_cases hlt : k < m
      · have hkl : k < C.length := by rw [HML.out]; exact hlt
        obtain ⟨g, off, rfl, -, hgl, hat⟩ := rExts_at (Rep.below HC3.out bel) (by omega)
        obtain ⟨c0, c1, c2, -⟩ := hat k hkl
        have hin := HCin.out C[k] (List.getElem_mem hkl)
        have HSt : Hid _ := Rf.sum_take (p := p) hkl
        have hsb := Rf.sum_bound (p := p) (C := C.take k) (fun y hy => HCin.out y (List.mem_of_mem_take hy))
        rw [List.length_take, HML.out] at hsb
        obtain ⟨y, hX⟩ : ∃ y, y = C[k] := ⟨_, rfl⟩
        rw [← hX] at c0 c1 c2 hin HSt
        unfold Rf.Cin at hin
        obtain ⟨m1, m2, m3, m4, m5⟩ := hin
        have hsb1 := hsb.1
        have hsb2 : Rf.sumAt p (C.take k) ≤ 604000000 := by omega
        generalize hG : Rf.sumAt p (C.take k) = sm at *
        have hkz : (k : Int) < (m : Int) := by omega
        have HB : Hid (Below w7.heap.size w7 wr) := bel
        have ewp : IntKind.i64.wrap (p - y.1) = p - y.1 := by rw [IntKind.wrap_i64]; omega
        clear hX hat bel hgl hG hsb
        by_cases e1 : y.1 ≤ p
        · have e1' : decide (y.1 ≤ p) = true := decide_eq_true e1
          by_cases e2 : p - y.1 < y.2.1
          · have e2' : decide (p - y.1 < y.2.1) = true := decide_eq_true e2
            have HN2 : Hid (Rf.sumAt p (C.take (k + 1)) = sm + y.2.2) := by unfold Hid; rw [HSt.out, if_pos (by omega)]
            go_wp2_with fail
            go_quiet (fail)
            go_wp2
            go_roundw
            case rel => exact ⟨k + 1, by omega, by go_num, by rw [HN2.out], same_drewN HB.out _⟩
            case measure => simp [intOf]; omega
          · have e2' : decide (p - y.1 < y.2.1) = false := decide_eq_false e2
            have HN2 : Hid (Rf.sumAt p (C.take (k + 1)) = sm) := by unfold Hid; rw [HSt.out, if_neg (by omega), Int.add_zero]
            go_wp2_with fail
            go_quiet (fail)
            go_wp2
            go_roundw
            case rel => exact ⟨k + 1, by omega, by go_num, by rw [HN2.out], same_drewN HB.out _⟩
            case measure => simp [intOf]; omega
        · have e1' : decide (y.1 ≤ p) = false := decide_eq_false e1
          have HN2 : Hid (Rf.sumAt p (C.take (k + 1)) = sm) := by unfold Hid; rw [HSt.out, if_neg (by omega), Int.add_zero]
          go_wp2_with fail
          go_quiet (fail)
          go_wp2
          go_roundw
          case rel => exact ⟨k + 1, by omega, by go_num, by rw [HN2.out], same_drewN HB.out _⟩
          case measure => simp [intOf]; omega
      · obtain rfl : m = k := by omega
        obtain ⟨w8, hs8⟩ : ∃ w8, w8 = wr := ⟨_, rfl⟩
        rw [← hs8] at bel ⊢
        rw [List.take_of_length_le (by rw [HML.out]; exact Nat.le_refl _), HS1.out]
        have B8 : Hid (Below W.heap.size W w8) := on B7.out bel
        have HU8 : Hid (rSpns.rd w8 (fun b => w6.heap.size ≤ b) [.slice a7 mu c7] U) := Rep.below HU3.out bel
        clear hs8 bel HU3 HC3
        go_wp2
        go_loopw [13, 14] (fun s i wr => ∃ (k : Nat) (b : Bool), k ≤ mu ∧ i = .int .i64 k ∧ s = .bool b ∧ Hid (b = true ↔ ∃ j, ∃ h : j < U.length, j < k ∧ Ex.inSpan U[j] p) ∧ Below w8.heap.size w8 wr) (fun _ i _ => mu - (intOf i).toNat)
        case atStart => exact ⟨0, false, Nat.zero_le _, rfl, rfl, ⟨(fun h => by cases h), (fun ⟨j, _, h, _⟩ => by omega)⟩, Below.refl _ _⟩
        case round =>
          obtain ⟨k, b, hk, rfl, rfl, HI, bel⟩ := hrel
          by_cases hlt : k < mu
          · have hkl : k < U.length := by rw [HMU.out]; exact hlt
            obtain ⟨g, off, rfl, -, hgl, hat⟩ := rSpns_at (Rep.below HU8.out bel) (by omega)
            obtain ⟨c0, c1, -⟩ := hat k hkl
            have hin := HUin.out U[k] (List.getElem_mem hkl)
            have HSt : Hid ((∃ j, ∃ h : j < U.length, j < k + 1 ∧ Ex.inSpan U[j] p) ↔ (∃ j, ∃ h : j < U.length, j < k ∧ Ex.inSpan U[j] p) ∨ Ex.inSpan U[k] p) := by
              constructor
              · rintro ⟨j, hj, h, hs⟩
                by_cases e : j = k
                · subst e; exact .inr hs
                · exact .inl ⟨j, hj, by omega, hs⟩
              · rintro (⟨j, hj, h, hs⟩ | hs)
                · exact ⟨j, hj, by omega, hs⟩
                · exact ⟨k, hkl, by omega, hs⟩
            obtain ⟨y, hX⟩ : ∃ y, y = U[k] := ⟨_, rfl⟩
            rw [← hX] at c0 c1 hin HSt
            unfold Rf.Sin at hin
            obtain ⟨m1, m2, m3⟩ := hin
            have hkz : (k : Int) < (mu : Int) := by omega
            have HB : Hid (Below w8.heap.size w8 wr) := bel
            have ewp : IntKind.i64.wrap (p - y.1) = p - y.1 := by rw [IntKind.wrap_i64]; omega
            clear hX hat bel hgl
            cases b with
            | true =>
              have HN2 : Hid (∃ j, ∃ h : j < U.length, j < k + 1 ∧ Ex.inSpan U[j] p) := HSt.out.2 (.inl (HI.out.1 rfl))
              go_wp2_with fail
              go_quiet (fail)
              go_wp2
              go_roundw
              case rel => exact ⟨k + 1, true, by omega, by go_num, rfl, ⟨fun _ => HN2.out, fun _ => rfl⟩, same_drewN HB.out _⟩
              case measure => simp [intOf]; omega
            | false =>
              have HF : Hid (¬ ∃ j, ∃ h : j < U.length, j < k ∧ Ex.inSpan U[j] p) := fun h => by have := HI.out.2 h; cases this
              by_cases e1 : y.1 ≤ p
              · have e1' : decide (y.1 ≤ p) = true := decide_eq_true e1
                by_cases e2 : p - y.1 < y.2
                · have e2' : decide (p - y.1 < y.2) = true := decide_eq_true e2
                  have HN2 : Hid (∃ j, ∃ h : j < U.length, j < k + 1 ∧ Ex.inSpan U[j] p) := HSt.out.2 (.inr (by unfold Ex.inSpan; omega))
                  go_wp2_with fail
                  go_quiet (fail)
                  go_wp2
                  go_roundw
                  case rel => exact ⟨k + 1, true, by omega, by go_num, rfl, ⟨fun _ => HN2.out, fun _ => rfl⟩, same_drewN HB.out _⟩
                  case measure => simp [intOf]; omega
                · have e2' : decide (p - y.1 < y.2) = false := decide_eq_false e2
                  have HN2 : Hid (¬ (∃ j, ∃ h : j < U.length, j < k + 1 ∧ Ex.inSpan U[j] p)) := fun h => by
                    rcases HSt.out.1 h with h | h
                    · exact absurd h HF.out
                    · unfold Ex.inSpan at h; omega
                  go_wp2_with fail
                  go_quiet (fail)
                  go_wp2
                  go_roundw
                  case rel => exact ⟨k + 1, false, by omega, by go_num, rfl, ⟨(fun h => by cases h), fun h => absurd h HN2.out⟩, same_drewN HB.out _⟩
                  case measure => simp [intOf]; omega
              · have e1' : decide (y.1 ≤ p) = false := decide_eq_false e1
                have HN2 : Hid (¬ (∃ j, ∃ h : j < U.length, j < k + 1 ∧ Ex.inSpan U[j] p)) := fun h => by
                  rcases HSt.out.1 h with h | h
                  · exact absurd h HF.out
                  · unfold Ex.inSpan at h; omega
                go_wp2_with fail
                go_quiet (fail)
                go_wp2
                go_roundw
                case rel => exact ⟨k + 1, false, by omega, by go_num, rfl, ⟨(fun h => by cases h), fun h => absurd h HN2.out⟩, same_drewN HB.out _⟩
                case measure => simp [intOf]; omega
          · obtain rfl : mu = k := by omega
            have hAny : b = true ↔ 0 < mw := by
              rw [← HS2.out]
              exact ⟨fun h => by
                obtain ⟨j, hj, -, hs⟩ := HI.out.1 h
                exact ⟨_, List.getElem_mem hj, hs⟩, fun ⟨x, hx, hs⟩ => by
                obtain ⟨j, hj, rfl⟩ := List.mem_iff_getElem.1 hx
                exact HI.out.2 ⟨j, hj, by rw [← HMU.out]; exact hj, hs⟩⟩
            have BF : Hid (Below W.heap.size W wr) := on B8.out bel
            clear bel HI
            cases b with
            | true =>
              have hmp : 0 < mw := hAny.1 rfl
              have hmz : (0 : Int) < (mw : Int) := by omega
              clear hAny
              go_wp2_with (go_at_call 21; refine (num9_u _ _).mono ?_; rintro e w99 ⟨rfl, rfl⟩)
              go_ret
              exact ⟨by simp, BF.out⟩
            | false =>
              obtain rfl : mw = 0 := Nat.eq_zero_of_not_pos (fun h => by have := hAny.2 h; cases this)
              clear hAny
              go_wp2_with (go_at_call 21; refine (num9_u _ _).mono ?_; rintro e w99 ⟨rfl, rfl⟩)
              go_ret
              exact ⟨by simp, BF.out⟩
  · obtain ⟨e9, e9'⟩ := Rf.all_nine hE (p, 1)
    rw [Rf.whoL_no (by rw [e9']; decide), e9, e9']
    clear hE e9 e9' HO3 HO5 HO7
    go_wp2_with (go_at_call 21; refine (num9_u _ _).mono ?_; rintro e w99 ⟨rfl, rfl⟩)
    go_ret
    exact ⟨rfl, B7.out⟩

set_option maxRecDepth 100000 in
theorem lcounts_lifted (os : Os) (started : os.Started) (H : Type) (enc : TypeId × Value → H) :
    ReturnsInHanded {} Try.checked os 6 .any (Rows.refsCountsSpec.pre6 enc Try.prog Try.f6 Rows.refsCountsRow.domain false) (Rows.refsCountsSpec.post enc Try.prog Try.f6 false true false false) := by
  refine returnsInHanded_of_change_sized (C := Try.checked) own started (by kernel_rfl) Try.func6
    (ChangeSpec.witness6 (enc := enc) (C := Try.checked) false ⟨#[], #[.slice none 0 0, .int .i64 0], []⟩ 8 (by kernel_rfl) (by kernel_rfl) (by kernel_rfl) (by kernel_rfl)) ?_
  intro W base args ds gs before hval0 hW _ hsz0 _
  have hsz : (DataW.weightsEach Try.prog (Try.f6.params.toList ++ Rows.refsCountsSpec.plain.varTypes Try.prog) (ds ++ gs)).all (· ≤ reachBytes) = true := hsz0
  clear hsz0
  have hval : ∀ (j : Nat) t v, Try.f6.params[j]? = some t → args[j]? = some v → Value.okWide Try.prog W .any base t v := hval0
  have hW' := hW
  obtain ⟨p, q, hA0, hV, rfl, hfz, hnd⟩ := hW
  have hA : DataW.TrodAll enc Try.prog W 0 (fun _ => true) true Try.f6.params.toList args.toList ds p := hA0
  rw [Try.params6] at hA hval hsz
  obtain ⟨v0, vs0, d0, ds0, p0, q0, hargs, rfl, rfl, h0, r0⟩ := trodAll_cons hA
  obtain ⟨v1, vs1, d1, ds1, p1, q1, rfl, rfl, rfl, h1, r1⟩ := trodAll_cons r0
  obtain ⟨rfl, rfl, rfl⟩ := trodAll_nil r1
  obtain rfl : args = #[v0, v1] := by cases args; simp_all
  obtain ⟨rfl, rfl⟩ := trodVars_none hV
  obtain ⟨a0, len0, cap0, rfl⟩ := okWide_slice Try.underlying22 (hval 0 22 v0 rfl rfl)
  have k0 := h0
  have lt0 : ∀ x ∈ p0, x.block < W.heap.size := by obtain ⟨m, hm⟩ := k0; exact DataW.trod_lt m _ _ _ hm
  obtain ⟨x0, hx0⟩ := opens_maps9.arg h0 hsz (j := 0) rfl rfl
  obtain ⟨a1, rfl, rfl, rfl, w1⟩ := open_int Try.underlying3 (hval 1 3 v1 rfl rfl) h1
  have i1 := bounds_i64 w1
  clear hA0 hval0
  refine (lcounts_walk a0 len0 cap0 x0 a1 W hx0 (by omega) (by omega)).mono fun e W' ⟨he, bel⟩ => ?_
  subst he
  exact ⟨_, rfl, _, _, _, [], _, [], hW', trodAll_mk1 (shut_bool Try.underlying4 _), (trodAll_cons_mk (Below.trod laidOut (by kernel_rfl) (of_decide_eq_true (by kernel_rfl)) k0 bel lt0) (trodAll_cons_mk (shut_int Try.underlying3 w1) trodAll_mk0)), rfl, bel.frame _, fun h => by cases h⟩

theorem refsCounts_holds : Rows.RefsCountsSaid :=
  OpenClaim.holds_of_wide 6 Try.f6 rfl rfl rfl rfl rfl rfl rfl ⟨rfl, rfl, rfl, rfl, rfl⟩ rfl rfl rfl rfl rfl (by kernel_rfl) Try.func6 (by kernel_rfl)
    (of_decide_eq_true (by kernel_rfl)) (by unfold Func.isWrapper; first | (rw [if_pos (by decide +kernel)]; kernel_rfl) | (rw [if_neg (by decide +kernel)]; exact ⟨rfl, rfl⟩))
    (fun os started H enc _ => lcounts_lifted os started H enc)

end Go.Proofs.Ytinlgoljaiolnaa
