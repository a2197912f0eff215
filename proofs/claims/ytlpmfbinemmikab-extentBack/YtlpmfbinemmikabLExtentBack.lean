/-
  What moved away and back again, to a place where nothing stood, is the map that was, at whatever map, span and place. Conditions: none.
-/
import Derived.Test.YtlpmfbinemmikabEAlive
import Derived.Test.YtlpmfbinemmikabEFrame
import Derived.Test.YtlpmfbinemmikabXZ
import Derived.Test.YtlpmfbinemmikabRPE
namespace Go.Proofs.Ytlpmfbinemmikab
open Go.ChangeShapes Go.WideShapes Go.ChangeAt Go.RowKit
set_option linter.unusedVariables false

theorem sameExts_eq (w : World) (P P' : Nat → Prop) (a a' : Option Addr) (n c n' c' : Nat) (l m : List Ext) (hL : rExts.rd w P [.slice a n c] l) (hM : rExts.rd w P' [.slice a' n' c'] m) (h : l = m) :
    Calls Try.prog 13 #[.slice a n c, .slice a' n' c'] w fun e w' => e = .returned (.bool true) ∧ Below w.heap.size w w' := by
  refine (sameExts_u w P P' a a' n c n' c' l m hL hM).mono ?_
  rintro e w' ⟨rfl, b⟩
  exact ⟨by rw [decide_eq_true h], b⟩

theorem Ex.moveL_len (l : List Ext) (x : Spn) (t : Int) : (Ex.moveL l x t).length ≤ 1024 := by
  by_cases h : Ex.moveE l x t = 0
  · exact (Ex.moveL_ok h).2.1.1
  · rw [show Ex.moveL l x t = [] from if_neg h]; decide

set_option maxHeartbeats 4000000 in
theorem eback_walk (a : Option Addr) (n c : Nat) (l : List Ext) (cs : List Value) (x : Spn) (t : Int) (W : World) (h0 : rExts.rd W (fun b => b < W.heap.size) [.slice a n c] l) (h1 : rSpn.rd W (fun b => b < W.heap.size) cs x) (ht1 : -9223372036854775808 ≤ t) (ht2 : t ≤ 9223372036854775807) :
    Calls Try.prog 4 #[.slice a n c, .agg cs.toArray, .int .i64 t] W fun e W' => e = .returned (.bool true) ∧ Below W.heap.size W W' := by
  have HR : Hid _ := h0
  obtain ⟨hln, -⟩ := rList_len h0
  have HLN : Hid (l.length = n) := hln
  obtain ⟨rfl, hx3⟩ := rSpn_rd.1 h1
  obtain ⟨w0, hw0, V0, b0, z0⟩ := boxedRow W 39 [.int .i64 x.1, .int .i64 x.2]
  have HV : Hid (Row w0 W.heap.size 39 [.int .i64 x.1, .int .i64 x.2]) := V0
  have B0 : Hid (Below W.heap.size W w0) := b0
  have HX : Hid (In2 x) := hx3
  rw [show (spn2 x).toArray = #[.int .i64 x.1, .int .i64 x.2] from rfl]
  clear V0 b0 z0 h1 hx3 h0 hln
  go_enter Try.func4, Try.ntmps4
  go_wp2_with fail
  refine (alive5_u _).mono ?_
  rintro e w1 ⟨rfl, b1⟩
  have B1 : Hid (Below W.heap.size W w1) := on B0.out b1
  have HV1 : Hid (Row w1 W.heap.size 39 [.int .i64 x.1, .int .i64 x.2]) := HV.out.below b1
  obtain ⟨x0, x1⟩ := HV1.out.two
  clear b1
  go_wp2_with fail
  refine (extMove_u _ _ _ _ _ l (Rep.below HR.out B1.out) x t HX.out).mono ?_
  rintro e w2 ⟨b, rfl, ho, b2⟩
  obtain ⟨a2, c2, rfl, -, -⟩ := ho.slice
  have B2 : Hid (Below W.heap.size W w2) := on B1.out b2
  have HV2 : Hid (Row w2 W.heap.size 39 [.int .i64 x.1, .int .i64 x.2]) := HV1.out.below b2
  have HA2 : Hid (rExts.rd w2 (fun b => w1.heap.size ≤ b) [.slice a2 (Ex.moveL l x t).length c2] (Ex.moveL l x t)) := ho.rd (by have := Ex.moveL_len l x t; omega)
  clear ho b2 x0 x1
  by_cases hE : Ex.moveE l x t = 0
  · obtain ⟨hOk, hSp, -⟩ := Ex.moveE_zero.1 hE
    have HE0 : Hid (Ex.moveE l x t = 0) := hE
    have HO : Hid (∀ y ∈ l, Ex.One y) := hOk.2.1
    have hn : n ≤ 1024 := by have h := hOk.1; rw [HLN.out] at h; exact h
    unfold Ex.Span Ex.Fits at hSp
    obtain ⟨q1, ⟨q2, q3, q4, q5⟩, q6, q7, q8, q9⟩ := hSp
    rw [hE]
    clear hE hOk
    go_wp2_with (go_at_call 14; refine (num5_u _ _).mono ?_; rintro e w9 ⟨rfl, rfl⟩)
    go_loopw [9] (fun i wr => ∃ j : Nat, j ≤ n ∧ i = .int .i64 j ∧ Hid (∀ y ∈ l.take j, ¬ (y.2.1 < t + x.2 ∧ t < y.2.1 + y.2.2)) ∧ Below w2.heap.size w2 wr) (fun i _ => n - (intOf i).toNat)
    case atStart => exact ⟨0, Nat.zero_le _, rfl, (fun y hy => by simp at hy), Below.refl _ _⟩
    case round =>
      obtain ⟨j, hj, rfl, HI, bel⟩ := hrel
      have BW : Hid (Below W.heap.size W wr) := on B2.out bel
      have HV3 : Hid (Row wr W.heap.size 39 [.int .i64 x.1, .int .i64 x.2]) := HV2.out.below bel
      have HA3 : Hid (rExts.rd wr (fun b => w1.heap.size ≤ b) [.slice a2 (Ex.moveL l x t).length c2] (Ex.moveL l x t)) := Rep.below HA2.out bel
      obtain ⟨x0, x1⟩ := HV3.out.two
      by_cases hlt : j < n
      · have hkl : j < l.length := by rw [HLN.out]; exact hlt
        obtain ⟨g, off, rfl, -, hgl, hat⟩ := rExts_at (Rep.below HR.out BW.out) (by omega)
        obtain ⟨c0, c1, c2', -⟩ := hat j hkl
        have ho := HO.out l[j] (List.getElem_mem hkl)
        have HNx : Hid (l.take (j + 1) = l.take j ++ [l[j]]) := List.take_succ_eq_append_getElem hkl
        obtain ⟨Y, hY⟩ : ∃ Y, Y = l[j] := ⟨_, rfl⟩
        rw [← hY] at c0 c1 c2' ho HNx
        clear hY hat
        unfold Ex.One Ex.Fits at ho
        obtain ⟨r1, ⟨r2, r3, r4, r5⟩, r6, r7, r8, r9⟩ := ho
        have hjz : (j : Int) < (n : Int) := by omega
        by_cases k1 : Y.2.1 < t + x.2
        · have k1' : decide (Y.2.1 < t + x.2) = true := decide_eq_true k1
          by_cases k2 : t < Y.2.1 + Y.2.2
          · have k2' : decide (t < Y.2.1 + Y.2.2) = true := decide_eq_true k2
            go_wp2_with fail
            go_quiet (fail)
            go_wp2
            go_ret
            exact ⟨rfl, same_drewN BW.out nq⟩
          · have k2' : decide (t < Y.2.1 + Y.2.2) = false := decide_eq_false k2
            have HI2 : Hid (∀ y ∈ l.take (j + 1), ¬ (y.2.1 < t + x.2 ∧ t < y.2.1 + y.2.2)) := by
              intro y hy
              rw [HNx.out] at hy
              rcases List.mem_append.1 hy with hy | hy
              · exact HI.out y hy
              · rw [List.mem_singleton.1 hy]; exact fun h => k2 h.2
            go_wp2_with fail
            go_quiet (fail)
            go_wp2
            go_roundw
            case rel => exact ⟨j + 1, by omega, by go_num, HI2, same_drewN bel nq⟩
            case measure => simp [intOf]; omega
        · have k1' : decide (Y.2.1 < t + x.2) = false := decide_eq_false k1
          have HI2 : Hid (∀ y ∈ l.take (j + 1), ¬ (y.2.1 < t + x.2 ∧ t < y.2.1 + y.2.2)) := by
            intro y hy
            rw [HNx.out] at hy
            rcases List.mem_append.1 hy with hy | hy
            · exact HI.out y hy
            · rw [List.mem_singleton.1 hy]; exact fun h => k1 h.1
          go_wp2_with fail
          go_quiet (fail)
          go_wp2
          go_roundw
          case rel => exact ⟨j + 1, by omega, by go_num, HI2, same_drewN bel nq⟩
          case measure => simp [intOf]; omega
      · obtain rfl : j = n := by omega
        have hall : ∀ y ∈ l, ¬ (y.2.1 < t + x.2 ∧ t < y.2.1 + y.2.2) := by
          have h := HI.out
          rw [List.take_of_length_le (by rw [HLN.out]; exact Nat.le_refl _)] at h
          exact h
        obtain ⟨m1, m2⟩ := Ex.move_back HE0.out hall
        have HM1 : Hid _ := m1
        have HM2 : Hid _ := m2
        have HX2 : Hid (In2 (t, x.2)) := ⟨⟨ht1, ht2⟩, HX.out.2⟩
        clear hall m1 m2 bel
        go_wp2_with fail
        refine (extMove_u _ _ _ _ _ (Ex.moveL l x t) HA3.out (t, x.2) x.1 HX2.out).mono ?_
        rintro e w4 ⟨b, rfl, ho, b4⟩
        rw [HM2.out] at ho
        rw [HM1.out]
        obtain ⟨a4, c4, rfl, -, -⟩ := ho.slice
        have B4 : Hid (Below W.heap.size W w4) := on BW.out b4
        have HB4 : Hid (rExts.rd w4 (fun b => wr.heap.size ≤ b) [.slice a4 l.length c4] l) := ho.rd (by rw [HLN.out]; omega)
        clear ho b4 x0 x1
        go_wp2_with (go_at_call 14; refine (num5_u _ _).mono ?_; rintro e w9 ⟨rfl, rfl⟩)
        refine (sameExts_eq _ _ _ _ _ _ _ _ _ _ _ HB4.out (Rep.below HR.out B4.out) rfl).mono ?_
        rintro e w5 ⟨rfl, b5⟩
        go_wp2_with (go_at_call 14; refine (num5_u _ _).mono ?_; rintro e w9 ⟨rfl, rfl⟩)
        go_ret
        exact ⟨rfl, on B4.out b5⟩
  · have hL : (Ex.moveL l x t) = [] := if_neg hE
    rw [hL]
    have hE' : (Ex.moveE l x t == 0) = false := beq_eq_false_iff_ne.2 hE
    go_wp2_with (go_at_call 14; refine (num5_u _ _).mono ?_; rintro e w9 ⟨rfl, rfl⟩)
    go_ret
    exact ⟨rfl, B2.out⟩

set_option maxRecDepth 100000 in
theorem eback_lifted (os : Os) (started : os.Started) (H : Type) (enc : TypeId × Value → H) :
    ReturnsInHanded {} Try.checked os 4 .any (Rows.extentBackSpec.pre6 enc Try.prog Try.f4 Rows.extentBackRow.domain false) (Rows.extentBackSpec.post enc Try.prog Try.f4 false true false false) := by
  refine returnsInHanded_of_change_sized (C := Try.checked) own started (by kernel_rfl) Try.func4
    (ChangeSpec.witness6 (enc := enc) (C := Try.checked) false ⟨#[], #[.slice none 0 0, .agg #[.int .i64 0, .int .i64 0], .int .i64 0], []⟩ 8 (by kernel_rfl) (by kernel_rfl) (by kernel_rfl) (by kernel_rfl)) ?_
  intro W base args ds gs before hval0 hW _ hsz0 _
  have hsz : (DataW.weightsEach Try.prog (Try.f4.params.toList ++ Rows.extentBackSpec.plain.varTypes Try.prog) (ds ++ gs)).all (· ≤ reachBytes) = true := hsz0
  clear hsz0
  have hval : ∀ (j : Nat) t v, Try.f4.params[j]? = some t → args[j]? = some v → Value.okWide Try.prog W .any base t v := hval0
  have hW' := hW
  obtain ⟨p, q, hA0, hV, rfl, hfz, hnd⟩ := hW
  have hA : DataW.TrodAll enc Try.prog W 0 (fun _ => true) true Try.f4.params.toList args.toList ds p := hA0
  rw [Try.params4] at hA hval hsz
  obtain ⟨v0, vs0, d0, ds0, p0, q0, hargs, rfl, rfl, h0, r0⟩ := trodAll_cons hA
  obtain ⟨v1, vs1, d1, ds1, p1, q1, rfl, rfl, rfl, h1, r1⟩ := trodAll_cons r0
  obtain ⟨v2, vs2, d2, ds2, p2, q2, rfl, rfl, rfl, h2, r2⟩ := trodAll_cons r1
  obtain ⟨rfl, rfl, rfl⟩ := trodAll_nil r2
  obtain rfl : args = #[v0, v1, v2] := by cases args; simp_all
  obtain ⟨rfl, rfl⟩ := trodVars_none hV
  obtain ⟨a0, len0, cap0, rfl⟩ := okWide_slice Try.underlying22 (hval 0 22 v0 rfl rfl)
  have k0 := h0
  have lt0 : ∀ x ∈ p0, x.block < W.heap.size := by obtain ⟨m, hm⟩ := k0; exact DataW.trod_lt m _ _ _ hm
  obtain ⟨x0, hx0⟩ := opens_exts.arg h0 hsz (j := 0) rfl rfl
  obtain ⟨c1, rfl, -⟩ := okWide_struct Try.underlying39 (hval 1 39 v1 rfl rfl)
  have k1 := h1
  have lt1 : ∀ x ∈ p1, x.block < W.heap.size := by obtain ⟨m, hm⟩ := k1; exact DataW.trod_lt m _ _ _ hm
  obtain ⟨x1, hx1⟩ := opens_span.arg h1 hsz (j := 1) rfl rfl
  obtain ⟨a2, rfl, rfl, rfl, w2⟩ := open_int Try.underlying3 (hval 2 3 v2 rfl rfl) h2
  have i2 := bounds_i64 w2
  clear hA0 hval0
  refine (eback_walk a0 len0 cap0 x0 c1.toList x1 a2 W hx0 hx1 (by omega) (by omega)).mono fun e W' ⟨he, bel⟩ => ?_
  subst he
  exact ⟨_, rfl, _, _, _, [], _, [], hW', trodAll_mk1 (shut_bool Try.underlying4 _), (trodAll_cons_mk (Below.trod laidOut (by kernel_rfl) (of_decide_eq_true (by kernel_rfl)) k0 bel lt0) (trodAll_cons_mk (Below.trod laidOut (by kernel_rfl) (of_decide_eq_true (by kernel_rfl)) k1 bel lt1) (trodAll_cons_mk (shut_int Try.underlying3 w2) trodAll_mk0))), rfl, bel.frame _, fun h => by cases h⟩

theorem extentBack_holds : Rows.ExtentBackSaid :=
  OpenClaim.holds_of_wide 4 Try.f4 rfl rfl rfl rfl rfl rfl rfl ⟨rfl, rfl, rfl, rfl, rfl⟩ rfl rfl rfl rfl rfl (by kernel_rfl) Try.func4 (by kernel_rfl)
    (of_decide_eq_true (by kernel_rfl)) (by unfold Func.isWrapper; first | (rw [if_pos (by decide +kernel)]; kernel_rfl) | (rw [if_neg (by decide +kernel)]; exact ⟨rfl, rfl⟩))
    (fun os started H enc _ => eback_lifted os started H enc)

end Go.Proofs.Ytlpmfbinemmikab
