/-
  Without what is used each sector is free just if no used span has it: at whatever size, spans and place. Conditions: none.
-/
import Derived.Test.YtbbjbajdoekheaaFAlive
import Derived.Test.YtbbjbajdoekheaaFFrame
import Derived.Test.YtbbjbajdoekheaaYN
namespace Go.Proofs.Ytbbjbajdoekheaa
open Go.ChangeShapes Go.WideShapes Go.ChangeAt Go.RowKit
set_option linter.unusedVariables false

theorem Fr.left_nil : ∀ u : List Spn, Fr.leftOf (Fr.newL 0) u = []
  | [] => rfl
  | x :: u => Fr.left_nil u

set_option maxRecDepth 20000 in
set_option maxHeartbeats 8000000 in
theorem fall_walk (z : Int) (a : Option Addr) (n c : Nat) (u : List Spn) (d : Int) (W : World) (hzi0 : -9223372036854775808 ≤ z) (hzi1 : z ≤ 9223372036854775807) (h1 : rSpns.rd W (fun b => b < W.heap.size) [.slice a n c] u) (hd0 : -9223372036854775808 ≤ d) (hd1 : d ≤ 9223372036854775807) :
    Calls Try.prog 8 #[.int .i64 z, .slice a n c, .int .i64 d] W fun e W' => e = .returned (.bool true) ∧ Below W.heap.size W W' := by
  have HL : Hid (u.length = n) := (rList_len h1).1
  go_enter Try.func8, Try.ntmps8
  go_wp2_with fail
  refine (alive6_u _).mono ?_
  rintro e w1 ⟨rfl, b1⟩
  have B_1 : Hid (Below W.heap.size W w1) := b1
  have Lu_1 : Hid (rSpns.rd w1 (fun b => b < W.heap.size) [.slice a n c] (u)) := Rep.below h1 b1
  clear h1 b1
  go_wp2_with (go_at_call 18; refine (num6_u _ _).mono ?_; rintro e w99 ⟨rfl, rfl⟩)
  refine (freeWithout_u _ _ z _ _ _ u Lu_1.out).mono ?_
  rintro e w2 ⟨v2, rfl, ho2, b2⟩
  obtain ⟨af, cf, hv2, -, -⟩ := ho2.slice
  subst hv2
  have Lf_2 : Hid (rSpns.rd w2 (fun b => w1.heap.size ≤ b) [.slice af (Fr.withoutL z u).length cf] (Fr.withoutL z u)) := ho2.rd (by have := Fr.withoutL_len z u; omega)
  have Lu_2 : Hid (rSpns.rd w2 (fun b => b < W.heap.size) [.slice a n c] (u)) := Rep.below Lu_1.out b2
  have B_2 : Hid (Below W.heap.size W w2) := on B_1.out b2
  clear Lu_1
  clear ho2 b2
  obtain ⟨w3, hw3, V3, b3, z3⟩ := boxedRow w2 27 [.int .i64 (Fr.withoutZ z u), .slice af (Fr.withoutL z u).length cf]
  have Rf_3 : Hid (Row w3 w2.heap.size 27 [.int .i64 (Fr.withoutZ z u), .slice af (Fr.withoutL z u).length cf]) := V3
  have Lu_3 : Hid (rSpns.rd w3 (fun b => b < W.heap.size) [.slice a n c] (u)) := Rep.below Lu_2.out b3
  have Lf_3 : Hid (rSpns.rd w3 (fun b => w1.heap.size ≤ b) [.slice af (Fr.withoutL z u).length cf] (Fr.withoutL z u)) := Rep.below Lf_2.out b3
  have B_3 : Hid (Below W.heap.size W w3) := on B_2.out b3
  clear Lu_2 Lf_2
  clear V3 b3 z3
  by_cases hE : Fr.withoutE z u = 0
  · obtain ⟨⟨hz0, hz1⟩, hul, -, -⟩ := Fr.withoutE_zero.1 hE
    have hn : n ≤ 1024 := by rw [HL.out] at hul; exact hul
    by_cases hzz : z = 0
    · subst hzz
      have hl0 : Fr.withoutL 0 u = [] := by unfold Fr.withoutL; rw [if_pos hE]; exact Fr.left_nil u
      rw [hE]
      rw [hl0] at Rf_3 hw3
      rw [hl0]
      clear hE hl0
      obtain ⟨qf0, qf1⟩ := Rf_3.out.two
      go_wp2_with (go_at_call 18; refine (num6_u _ _).mono ?_; rintro e w99 ⟨rfl, rfl⟩)
      go_ret
      exact ⟨rfl, by have h := B_3.out; rw [← hw3] at h; exact h⟩
    have hzb : (z == 0) = false := beq_eq_false_iff_ne.2 hzz
    have ht1 := Int.tmod_lt_of_pos d (show (0 : Int) < z by omega)
    have ht2 := Int.lt_tmod_of_pos d (show (0 : Int) < z by omega)
    obtain ⟨T, hT⟩ : ∃ T, d.tmod z = T := ⟨_, rfl⟩
    rw [hT] at ht1 ht2
    obtain ⟨p, hp, hp0, hp1⟩ : ∃ p, (T + z).tmod z = p ∧ 0 ≤ p ∧ p < z := ⟨_, rfl, Int.tmod_nonneg _ (by omega), Int.tmod_lt_of_pos _ (by omega)⟩
    have wT : wrap64 (T + z) = T + z := by unfold wrap64; omega
    obtain ⟨s1, s2, s3, s4, s5, s6, s7⟩ := Fr.all_said hE hp0 hp1
    have HS3 : Hid _ := s3
    have HIn : Hid _ := s4
    have HT1 : Hid _ := s6
    have HT0 : Hid _ := s7
    rw [hE]
    rw [s1, s2] at Rf_3 hw3
    rw [s1] at Lf_3
    rw [s1, s2]
    clear s1 s2 s3 s4 s6 s7 hE hul
    go_wp2_with (go_at_call 18; refine (num6_u _ _).mono ?_; rintro e w99 ⟨rfl, rfl⟩)
    go_loopw [9, 10] (fun s i wr => ∃ (k : Nat) (b : Bool), k ≤ n ∧ i = .int .i64 k ∧ s = .bool b ∧ Hid (b = true ↔ ∃ j, ∃ h : j < u.length, j < k ∧ Ex.inSpan u[j] p) ∧ Below w3.heap.size w3 wr) (fun _ i _ => n - (intOf i).toNat)
    case atStart => exact ⟨0, false, Nat.zero_le _, rfl, rfl, ⟨(fun h => by cases h), (fun ⟨j, _, h, _⟩ => by omega)⟩, Below.refl _ _⟩
    case round =>
      obtain ⟨k, b, hk, rfl, rfl, HI, bel⟩ := hrel
      by_cases hlt : k < n
      · have hkl : k < u.length := by rw [HL.out]; exact hlt
        obtain ⟨g, off, rfl, -, hgl, hat⟩ := rSpns_at (Rep.below Lu_3.out bel) (by omega)
        obtain ⟨c0, c1, -⟩ := hat k hkl
        have hin := HIn.out u[k] (List.getElem_mem hkl)
        have HSt : Hid ((∃ j, ∃ h : j < u.length, j < k + 1 ∧ Ex.inSpan u[j] p) ↔ (∃ j, ∃ h : j < u.length, j < k ∧ Ex.inSpan u[j] p) ∨ Ex.inSpan u[k] p) := by
          constructor
          · rintro ⟨j, hj, h, hs⟩
            by_cases e : j = k
            · subst e; exact .inr hs
            · exact .inl ⟨j, hj, by omega, hs⟩
          · rintro (⟨j, hj, h, hs⟩ | hs)
            · exact ⟨j, hj, by omega, hs⟩
            · exact ⟨k, hkl, by omega, hs⟩
        obtain ⟨y, hX⟩ : ∃ y, y = u[k] := ⟨_, rfl⟩
        rw [← hX] at c0 c1 hin HSt
        obtain ⟨m1, m2, m3, m4⟩ := hin
        have hkz : (k : Int) < (n : Int) := by omega
        have HB : Hid (Below w3.heap.size w3 wr) := bel
        have ewp : IntKind.i64.wrap (p - y.1) = p - y.1 := by rw [IntKind.wrap_i64]; omega
        clear hX hat bel hgl
        cases b with
        | true =>
          have HN2 : Hid (∃ j, ∃ h : j < u.length, j < k + 1 ∧ Ex.inSpan u[j] p) := HSt.out.2 (.inl (HI.out.1 rfl))
          go_wp2_with fail
          go_quiet (fail)
          go_wp2
          go_roundw
          case rel => exact ⟨k + 1, true, by omega, by go_num, rfl, ⟨fun _ => HN2.out, fun _ => rfl⟩, same_drewN HB.out _⟩
          case measure => simp [intOf]; omega
        | false =>
          have HF : Hid (¬ ∃ j, ∃ h : j < u.length, j < k ∧ Ex.inSpan u[j] p) := fun h => by have := HI.out.2 h; cases this
          by_cases e1 : y.1 ≤ p
          · have e1' : decide (y.1 ≤ p) = true := decide_eq_true e1
            by_cases e2 : p - y.1 < y.2
            · have e2' : decide (p - y.1 < y.2) = true := decide_eq_true e2
              have HN2 : Hid (∃ j, ∃ h : j < u.length, j < k + 1 ∧ Ex.inSpan u[j] p) := HSt.out.2 (.inr (by unfold Ex.inSpan; omega))
              go_wp2_with fail
              go_quiet (fail)
              go_wp2
              go_roundw
              case rel => exact ⟨k + 1, true, by omega, by go_num, rfl, ⟨fun _ => HN2.out, fun _ => rfl⟩, same_drewN HB.out _⟩
              case measure => simp [intOf]; omega
            · have e2' : decide (p - y.1 < y.2) = false := decide_eq_false e2
              have HN2 : Hid (¬ (∃ j, ∃ h : j < u.length, j < k + 1 ∧ Ex.inSpan u[j] p)) := fun h => by
                rcases HSt.out.1 h with h | h
                · exact absurd h HF.out
                · unfold Ex.inSpan at h; omega
              go_wp2_with fail
              go_quiet (fail)
              go_wp2
              go_roundw
              case rel => exact ⟨k + 1, false, by omega, by go_num, rfl, ⟨(fun h => by cases h), fun h => absurd h HN2.out⟩, same_drewN HB.out _⟩
              case measure => simp [intOf]; omega
          · have e1' : decide (y.1 ≤ p) = false := decide_eq_false e1
            have HN2 : Hid (¬ (∃ j, ∃ h : j < u.length, j < k + 1 ∧ Ex.inSpan u[j] p)) := fun h => by
              rcases HSt.out.1 h with h | h
              · exact absurd h HF.out
              · unfold Ex.inSpan at h; omega
            go_wp2_with fail
            go_quiet (fail)
            go_wp2
            go_roundw
            case rel => exact ⟨k + 1, false, by omega, by go_num, rfl, ⟨(fun h => by cases h), fun h => absurd h HN2.out⟩, same_drewN HB.out _⟩
            case measure => simp [intOf]; omega
      · obtain rfl : n = k := by omega
        have HAny : Hid (b = true ↔ ∃ x ∈ u, Ex.inSpan x p) := ⟨fun h => by
            obtain ⟨j, hj, -, hs⟩ := HI.out.1 h
            exact ⟨_, List.getElem_mem hj, hs⟩, fun ⟨x, hx, hs⟩ => by
            obtain ⟨j, hj, rfl⟩ := List.mem_iff_getElem.1 hx
            exact HI.out.2 ⟨j, hj, by rw [← HL.out]; exact hj, hs⟩⟩
        obtain ⟨w4, hs4⟩ : ∃ w4, w4 = wr := ⟨_, rfl⟩
        rw [← hs4] at bel ⊢
        have Rf_4 : Hid (Row w4 (w2.heap.size) 27 [.int .i64 (z), .slice af (Fr.leftOf (Fr.newL z) u).length cf]) := Rf_3.out.below bel
        have Lu_4 : Hid (rSpns.rd w4 (fun b => b < W.heap.size) [.slice a n c] (u)) := Rep.below Lu_3.out bel
        have Lf_4 : Hid (rSpns.rd w4 (fun b => w1.heap.size ≤ b) [.slice af (Fr.leftOf (Fr.newL z) u).length cf] (Fr.leftOf (Fr.newL z) u)) := Rep.below Lf_3.out bel
        have B_4 : Hid (Below W.heap.size W w4) := on B_3.out bel
        clear Rf_3 Lu_3 Lf_3
        have HP : Hid (In2 (p, 1)) := by unfold Hid In2 In64; simp only; omega
        clear hs4 bel HI
        obtain ⟨qf0, qf1⟩ := Rf_4.out.two
        go_wp2_with (go_at_call 18; refine (num6_u _ _).mono ?_; rintro e w99 ⟨rfl, rfl⟩)
        refine (freeTake_u _ _ z _ _ _ (Fr.leftOf (Fr.newL z) u) Lf_4.out (p, 1) HP.out).mono ?_
        rintro e w5 ⟨v5, rfl, ho5, b5⟩
        obtain ⟨ag, cg, hv5, -, -⟩ := ho5.slice
        subst hv5
        have Lg_5 : Hid (rSpns.rd w5 (fun b => w4.heap.size ≤ b) [.slice ag (Fr.takeL z (Fr.leftOf (Fr.newL z) u) (p, 1)).length cg] (Fr.takeL z (Fr.leftOf (Fr.newL z) u) (p, 1))) := ho5.rd (by have := Fr.takeL_len z (Fr.leftOf (Fr.newL z) u) (p, 1); omega)
        have Rf_5 : Hid (Row w5 (w2.heap.size) 27 [.int .i64 (z), .slice af (Fr.leftOf (Fr.newL z) u).length cf]) := Rf_4.out.below b5
        have Lu_5 : Hid (rSpns.rd w5 (fun b => b < W.heap.size) [.slice a n c] (u)) := Rep.below Lu_4.out b5
        have Lf_5 : Hid (rSpns.rd w5 (fun b => w1.heap.size ≤ b) [.slice af (Fr.leftOf (Fr.newL z) u).length cf] (Fr.leftOf (Fr.newL z) u)) := Rep.below Lf_4.out b5
        have B_5 : Hid (Below W.heap.size W w5) := on B_4.out b5
        clear qf0 qf1
        clear Rf_4 Lu_4 Lf_4
        clear ho5 b5
        obtain ⟨w6, hw6, V6, b6, z6⟩ := boxedRow w5 27 [.int .i64 (Fr.takeZ z (Fr.leftOf (Fr.newL z) u) (p, 1)), .slice ag (Fr.takeL z (Fr.leftOf (Fr.newL z) u) (p, 1)).length cg]
        have Rg_6 : Hid (Row w6 w5.heap.size 27 [.int .i64 (Fr.takeZ z (Fr.leftOf (Fr.newL z) u) (p, 1)), .slice ag (Fr.takeL z (Fr.leftOf (Fr.newL z) u) (p, 1)).length cg]) := V6
        have Rf_6 : Hid (Row w6 (w2.heap.size) 27 [.int .i64 (z), .slice af (Fr.leftOf (Fr.newL z) u).length cf]) := Rf_5.out.below b6
        have Lu_6 : Hid (rSpns.rd w6 (fun b => b < W.heap.size) [.slice a n c] (u)) := Rep.below Lu_5.out b6
        have Lf_6 : Hid (rSpns.rd w6 (fun b => w1.heap.size ≤ b) [.slice af (Fr.leftOf (Fr.newL z) u).length cf] (Fr.leftOf (Fr.newL z) u)) := Rep.below Lf_5.out b6
        have Lg_6 : Hid (rSpns.rd w6 (fun b => w4.heap.size ≤ b) [.slice ag (Fr.takeL z (Fr.leftOf (Fr.newL z) u) (p, 1)).length cg] (Fr.takeL z (Fr.leftOf (Fr.newL z) u) (p, 1))) := Rep.below Lg_5.out b6
        have B_6 : Hid (Below W.heap.size W w6) := on B_5.out b6
        clear Rf_5 Lu_5 Lf_5 Lg_5
        clear V6 b6 z6
        clear Rg_6 Lg_6
        obtain ⟨qf0, qf1⟩ := Rf_6.out.two
        go_wp2_with (go_at_call 18; refine (num6_u _ _).mono ?_; rintro e w99 ⟨rfl, rfl⟩)
        refine (freeCheck_u _ _ z _ _ _ (Fr.leftOf (Fr.newL z) u) Lf_6.out _ HS3.out).mono ?_
        rintro e w7 ⟨rfl, b7⟩
        have Rf_7 : Hid (Row w7 (w2.heap.size) 27 [.int .i64 (z), .slice af (Fr.leftOf (Fr.newL z) u).length cf]) := Rf_6.out.below b7
        have Lu_7 : Hid (rSpns.rd w7 (fun b => b < W.heap.size) [.slice a n c] (u)) := Rep.below Lu_6.out b7
        have Lf_7 : Hid (rSpns.rd w7 (fun b => w1.heap.size ≤ b) [.slice af (Fr.leftOf (Fr.newL z) u).length cf] (Fr.leftOf (Fr.newL z) u)) := Rep.below Lf_6.out b7
        have B_7 : Hid (Below W.heap.size W w7) := on B_6.out b7
        clear qf0 qf1
        clear Rf_6 Lu_6 Lf_6
        clear b7
        cases b with
        | true =>
          rw [HT1.out (HAny.out.1 rfl)]
          go_wp2_with (go_at_call 18; refine (num6_u _ _).mono ?_; rintro e w99 ⟨rfl, rfl⟩)
          go_ret
          exact ⟨rfl, B_7.out⟩
        | false =>
          rcases HT0.out (fun h => by have := HAny.out.2 h; cases this) with e | e
          · rw [e]
            go_wp2_with (go_at_call 18; refine (num6_u _ _).mono ?_; rintro e w99 ⟨rfl, rfl⟩)
            go_ret
            exact ⟨rfl, B_7.out⟩
          · rw [e]
            go_wp2_with (go_at_call 18; refine (num6_u _ _).mono ?_; rintro e w99 ⟨rfl, rfl⟩)
            go_ret
            exact ⟨rfl, B_7.out⟩
  · obtain ⟨E, hEE⟩ : ∃ E, Fr.withoutE z u = E := ⟨_, rfl⟩
    obtain ⟨-, s1, s2⟩ := Fr.wo_not hEE (by rw [← hEE]; exact hE)
    rw [hEE] at hE ⊢
    have hE0 : (E == 0) = false := beq_eq_false_iff_ne.2 hE
    rw [s1, s2] at Rf_3 hw3
    rw [s1, s2]
    clear s1 s2 hEE
    obtain ⟨w6, hw6⟩ : ∃ w6, w6 = w3 := ⟨_, rfl⟩
    obtain ⟨qf0, qf1⟩ := Rf_3.out.two
    go_wp2_with (go_at_call 18; refine (num6_u _ _).mono ?_; rintro e w99 ⟨rfl, rfl⟩)
    go_ret
    exact ⟨rfl, by have h := B_3.out; rw [← hw3] at h; exact h⟩

set_option maxRecDepth 100000 in
theorem fall_lifted (os : Os) (started : os.Started) (H : Type) (enc : TypeId × Value → H) :
    ReturnsInHanded {} Try.checked os 8 .any (Rows.freeAllSpec.pre6 enc Try.prog Try.f8 Rows.freeAllRow.domain false) (Rows.freeAllSpec.post enc Try.prog Try.f8 false true false false) := by
  refine returnsInHanded_of_change_sized (C := Try.checked) own started (by kernel_rfl) Try.func8
    (ChangeSpec.witness6 (enc := enc) (C := Try.checked) false ⟨#[], #[.int .i64 0, .slice none 0 0, .int .i64 0], []⟩ 8 (by kernel_rfl) (by kernel_rfl) (by kernel_rfl) (by kernel_rfl)) ?_
  intro W base args ds gs before hval0 hW _ hsz0 _
  have hsz : (DataW.weightsEach Try.prog (Try.f8.params.toList ++ Rows.freeAllSpec.plain.varTypes Try.prog) (ds ++ gs)).all (· ≤ reachBytes) = true := hsz0
  clear hsz0
  have hval : ∀ (j : Nat) t v, Try.f8.params[j]? = some t → args[j]? = some v → Value.okWide Try.prog W .any base t v := hval0
  have hW' := hW
  obtain ⟨p, q, hA0, hV, rfl, hfz, hnd⟩ := hW
  have hA : DataW.TrodAll enc Try.prog W 0 (fun _ => true) true Try.f8.params.toList args.toList ds p := hA0
  rw [Try.params8] at hA hval hsz
  obtain ⟨v0, vs0, d0, ds0, p0, q0, hargs, rfl, rfl, h0, r0⟩ := trodAll_cons hA
  obtain ⟨v1, vs1, d1, ds1, p1, q1, rfl, rfl, rfl, h1, r1⟩ := trodAll_cons r0
  obtain ⟨v2, vs2, d2, ds2, p2, q2, rfl, rfl, rfl, h2, r2⟩ := trodAll_cons r1
  obtain ⟨rfl, rfl, rfl⟩ := trodAll_nil r2
  obtain rfl : args = #[v0, v1, v2] := by cases args; simp_all
  obtain ⟨rfl, rfl⟩ := trodVars_none hV
  obtain ⟨a0, rfl, rfl, rfl, w0⟩ := open_int Try.underlying3 (hval 0 3 v0 rfl rfl) h0
  have i0 := bounds_i64 w0
  obtain ⟨a1, len1, cap1, rfl⟩ := okWide_slice Try.underlying22 (hval 1 22 v1 rfl rfl)
  have k1 := h1
  have lt1 : ∀ x ∈ p1, x.block < W.heap.size := by obtain ⟨m, hm⟩ := k1; exact DataW.trod_lt m _ _ _ hm
  obtain ⟨x1, hx1⟩ := opens_spans.arg h1 hsz (j := 1) rfl rfl
  obtain ⟨a2, rfl, rfl, rfl, w2⟩ := open_int Try.underlying3 (hval 2 3 v2 rfl rfl) h2
  have i2 := bounds_i64 w2
  clear hA0 hval0
  refine (fall_walk a0 a1 len1 cap1 x1 a2 W (by omega) (by omega) hx1 (by omega) (by omega)).mono fun e W' ⟨he, bel⟩ => ?_
  subst he
  exact ⟨_, rfl, _, _, _, [], _, [], hW', trodAll_mk1 (shut_bool Try.underlying4 _), (trodAll_cons_mk (shut_int Try.underlying3 w0) (trodAll_cons_mk (Below.trod laidOut (by kernel_rfl) (of_decide_eq_true (by kernel_rfl)) k1 bel lt1) (trodAll_cons_mk (shut_int Try.underlying3 w2) trodAll_mk0))), rfl, bel.frame _, fun h => by cases h⟩

theorem freeAll_holds : Rows.FreeAllSaid :=
  OpenClaim.holds_of_wide 8 Try.f8 rfl rfl rfl rfl rfl rfl rfl ⟨rfl, rfl, rfl, rfl, rfl⟩ rfl rfl rfl rfl rfl (by kernel_rfl) Try.func8 (by kernel_rfl)
    (of_decide_eq_true (by kernel_rfl)) (by unfold Func.isWrapper; first | (rw [if_pos (by decide +kernel)]; kernel_rfl) | (rw [if_neg (by decide +kernel)]; exact ⟨rfl, rfl⟩))
    (fun os started H enc _ => fall_lifted os started H enc)

end Go.Proofs.Ytbbjbajdoekheaa
