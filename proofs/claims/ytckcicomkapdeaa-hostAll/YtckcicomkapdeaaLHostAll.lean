/-
  A crash that keeps all is a barrier. Conditions: none.
-/
import Derived.Test.YtckcicomkapdeaaRAlive
import Derived.Test.YtckcicomkapdeaaROf
import Derived.Test.YtckcicomkapdeaaRFrame
namespace Go.Proofs.Ytckcicomkapdeaa
open Go.ChangeShapes Go.WideShapes Go.ChangeAt Go.RowKit
set_option linter.unusedVariables false

theorem elem_bools : ElemOf Try.prog 27 4 rBool := elemOf (z := .bool false) Try.underlying27 (by kernel_rfl) rfl rfl rfl (by decide)

theorem Hst.crash_all (s : Host) : Hst.crashS s (List.replicate s.2.1.length true) = Hst.flushS s := by
  unfold Hst.crashS Hst.flushS Hst.settled
  split
  · rw [Hst.doneAll_congr (keep := Hst.those (List.replicate s.2.1.length true)) (keep' := Hst.all) s.2.1 0 s.1]
    intro i _ hi
    unfold Hst.those Hst.all
    rw [List.getD_eq_getElem?_getD, List.getElem?_replicate, if_pos (by omega)]
    rfl
  · rfl

set_option maxHeartbeats 4000000 in
theorem hall_walk (cs : List Value) (s : Host) (W : World) (h0 : rHost.rd W (fun b => b < W.heap.size) cs s) :
    Calls Try.prog 7 #[.agg cs.toArray] W fun e W' => e = .returned (.bool true) ∧ Below W.heap.size W W' := by
  have h0' := h0
  obtain ⟨a, n, c, b, m, d, rfl, -, -, -, hm, -, -, -, hm2⟩ := rHost_cells h0'
  clear h0'
  have HM : Hid _ := hm
  have HS0 : Hid _ := h0
  clear h0 hm
  obtain ⟨vs, hvs, -, -, -, bvs, zvs⟩ := boxed3 W 25 (.slice a n c) (.slice b m d) (.int .i64 s.2.2)
  have Vs : Hid (Var3 vs W.heap.size (.slice a n c) (.slice b m d) (.int .i64 s.2.2)) := by rw [← hvs]; exact var3_new _ _ _ _ _
  have HZs : Hid _ := zvs
  clear zvs
  go_enter Try.func7, Try.ntmps7
  go_wp2_with fail
  refine (alive_u _).mono ?_
  rintro e w1 ⟨rfl, b1⟩
  have X1 : Hid _ := (Vs.out.below b1)
  have p10 := X1.out.c0
  have p11 := X1.out.c1
  have p12 := X1.out.c2
  have H0 : Owns rBool 4 w1 w1.heap.size (.slice none 0 0) (List.replicate 0 true) := Owns.nil _ _ _ _
  go_wp2
  go_loopw [3, 4] (fun v i wr => ∃ (k : Nat), k ≤ m ∧ i = .int .i64 k ∧ Hid (Owns rBool 4 wr w1.heap.size v (List.replicate k true)) ∧ Below w1.heap.size w1 wr) (fun _ i _ => m - (intOf i).toNat)
  case atStart => exact ⟨0, Nat.zero_le _, rfl, H0, Below.refl _ _⟩
  case round =>
    obtain ⟨k, hk, rfl, O, bk⟩ := hrel
    clear H0 X1 p10 p11 p12
    have X2 : Hid _ := (Vs.out.below b1).below bk
    have p21 := X2.out.c1
    have p20 := X2.out.c0
    have p22 := X2.out.c2
    by_cases hlt : k < m
    · have hz := bk.size
      have hz5 : w1.heap.size ≤ (wr.alloc (.cells #[.bool true] 4)).heap.size := by simp only [World.size_alloc]; omega
      have hok : Hid ((k + 1) * 1 ≤ 140737488355328 ∧ k + 1 ≤ maxLen) := ⟨by omega, by unfold maxLen; omega⟩
      go_wp2_with (at_builtin; (refine append_rep elem_bools rfl _ _ rfl w1.heap.size _ (List.replicate k true) rfl (O.out.below ((Below.refl _ _).alloc (Nat.le_refl _) _)) ⟨wr.heap.size, 0, none⟩ [.bool true] true rfl (cell_one_new _ _ _) rfl (by rw [List.length_replicate]; exact hok.out.1) (by rw [List.length_replicate]; exact hok.out.2) hz5 ?_; intro b6 d6 w6 ho6 g6; rw [List.length_replicate] at ho6))
      go_roundw
      case rel => exact ⟨k + 1, by omega, by go_num, (by unfold Hid; rw [List.replicate_succ']; exact ho6), (bk.alloc hz _).grown g6 hz5 (fun k hk => (O.out.row k hk).1)⟩
      case measure => simp [intOf]; omega
    · obtain rfl : k = m := by omega
      obtain ⟨ka, kc, hv, hK⟩ := Owns.rd (hs := by decide) O.out (by rw [List.length_replicate]; show k * 1 ≤ _; omega)
      rw [List.length_replicate] at hv hK
      subst hv
      have HK : Hid (rBools.rd wr (fun b => w1.heap.size ≤ b) [.slice ka k kc] (List.replicate k true)) := hK
      clear hK O
      go_wp2_with fail
      refine (of_u _ _ _ s (Rep.below HS0.out (on (on bvs b1) bk))).mono ?_
      rintro e w2 ⟨cs2, rfl, hr2, b2⟩
      have HR2 : Hid _ := hr2
      clear hr2
      go_wp2_with fail
      refine (crash_u _ (fun _ => True) _ _ ka k kc (List.replicate k true) (rHost.weaken HR2.out (fun _ _ _ => trivial)) (rBools.weaken (Rep.below HK.out b2) (fun _ _ _ => trivial))).mono ?_
      rintro e w3 ⟨cs3, rfl, hr3, b3⟩
      rw [← HM.out, Hst.crash_all s] at hr3
      have hr3' := hr3
      obtain ⟨a3, n3, c3, d3, m3, e3, rfl, hA3, hW3, hn3, hm3, -⟩ := rHost_cells hr3'
      clear hr3'
      obtain ⟨v3, hv3, -, -, -, bv3, zv3⟩ := boxed3 w3 30 (.slice a3 n3 c3) (.slice d3 m3 e3) (.int .i64 (Hst.flushS s).2.2)
      have V3 : Hid (Var3 v3 w3.heap.size (.slice a3 n3 c3) (.slice d3 m3 e3) (.int .i64 (Hst.flushS s).2.2)) := by rw [← hv3]; exact var3_new _ _ _ _ _
      have HZ3 : Hid _ := zv3
      clear zv3
      have HA3 : Hid _ := hA3
      clear hA3
      have HW3 : Hid _ := hW3
      clear hW3
      have HN3 : Hid _ := hn3
      clear hn3
      have HM3 : Hid _ := hm3
      clear hm3
      clear X2 p20 p21 p22
      have X3 : Hid _ := (Vs.out.below (on (on (on (on b1 bk) b2) b3) bv3))
      have p30 := X3.out.c0
      have p31 := X3.out.c1
      have p32 := X3.out.c2
      have X4 : Hid _ := V3.out
      have p40 := X4.out.c0
      have p41 := X4.out.c1
      have p42 := X4.out.c2
      go_wp2_with fail
      refine (of_u _ _ _ s (Rep.below HS0.out (on (on (on (on (on bvs b1) bk) b2) b3) bv3))).mono ?_
      rintro e w4 ⟨cs4, rfl, hr4, b4⟩
      have HR4 : Hid _ := hr4
      clear hr4
      go_wp2_with fail
      refine (flush_u _ _ _ _ HR4.out).mono ?_
      rintro e w5 ⟨cs5, rfl, hr5, b5⟩
      have hr5' := hr5
      obtain ⟨a5, n5, c5, d5, m5, e5, rfl, hA5, hW5, hn5, hm5, -⟩ := rHost_cells hr5'
      clear hr5'
      obtain ⟨v5, hv5, -, -, -, bv5, zv5⟩ := boxed3 w5 30 (.slice a5 n5 c5) (.slice d5 m5 e5) (.int .i64 (Hst.flushS s).2.2)
      have V5 : Hid (Var3 v5 w5.heap.size (.slice a5 n5 c5) (.slice d5 m5 e5) (.int .i64 (Hst.flushS s).2.2)) := by rw [← hv5]; exact var3_new _ _ _ _ _
      have HZ5 : Hid _ := zv5
      clear zv5
      have HA5 : Hid _ := hA5
      clear hA5
      have HW5 : Hid _ := hW5
      clear hW5
      have HN5 : Hid _ := hn5
      clear hn5
      have HM5 : Hid _ := hm5
      clear hm5
      obtain rfl : n5 = n3 := by rw [← HN5.out, ← HN3.out]
      obtain rfl : m5 = m3 := by rw [← HM5.out, ← HM3.out]
      have eE : (Hst.checkE s == Hst.checkE s) = true := beq_self_eq_true _
      have eC : ((Hst.flushS s).2.2 == (Hst.flushS s).2.2) = true := beq_self_eq_true _
      have eM : ((m5 : Int) == (m5 : Int)) = true := beq_self_eq_true _
      clear X3 p30 p31 p32
      clear X4 p40 p41 p42
      have X5 : Hid _ := (V3.out.below (on (on b4 b5) bv5))
      have p50 := X5.out.c0
      have p51 := X5.out.c1
      have p52 := X5.out.c2
      have X6 : Hid _ := V5.out
      have p60 := X6.out.c0
      have p61 := X6.out.c1
      have p62 := X6.out.c2
      go_wp2_with fail
      refine (sameList_r _ _ _ a3 a5 n5 c3 n5 c5 _ _ (Rep.below HA3.out (on (on (on bv3 b4) b5) bv5)) (Rep.below HA5.out bv5)).mono ?_
      rintro e w6 ⟨rfl, b6⟩
      rw [beq_self_eq_true]
      have X7 : Hid _ := (V3.out.below (on (on (on b4 b5) bv5) b6))
      have p70 := X7.out.c0
      have p71 := X7.out.c1
      have p72 := X7.out.c2
      have X8 : Hid _ := (V5.out.below b6)
      have p80 := X8.out.c0
      have p81 := X8.out.c1
      have p82 := X8.out.c2
      go_wp2
      go_ret
      exact ⟨rfl, (on (on (on (on (on (on (on (on (on bvs b1) bk) b2) b3) bv3) b4) b5) bv5) b6)⟩

set_option maxRecDepth 100000 in
theorem hall_lifted (os : Os) (started : os.Started) (H : Type) (enc : TypeId × Value → H) :
    ReturnsInHanded {} Try.checked os 7 .any (Rows.hostAllSpec.pre6 enc Try.prog Try.f7 Rows.hostAllRow.domain false) (Rows.hostAllSpec.post enc Try.prog Try.f7 false true false false) := by
  refine returnsInHanded_of_change_sized (C := Try.checked) own started (by kernel_rfl) Try.func7
    (ChangeSpec.witness6 (enc := enc) (C := Try.checked) false ⟨#[], #[.agg #[.slice none 0 0, .slice none 0 0, .int .i64 0]], []⟩ 8 (by kernel_rfl) (by kernel_rfl) (by kernel_rfl) (by kernel_rfl)) ?_
  intro W base args ds gs before hval0 hW _ hsz0 _
  have hsz : (DataW.weightsEach Try.prog (Try.f7.params.toList ++ Rows.hostAllSpec.plain.varTypes Try.prog) (ds ++ gs)).all (· ≤ reachBytes) = true := hsz0
  clear hsz0
  have hval : ∀ (j : Nat) t v, Try.f7.params[j]? = some t → args[j]? = some v → Value.okWide Try.prog W .any base t v := hval0
  have hW' := hW
  obtain ⟨p, q, hA0, hV, rfl, hfz, hnd⟩ := hW
  have hA : DataW.TrodAll enc Try.prog W 0 (fun _ => true) true Try.f7.params.toList args.toList ds p := hA0
  rw [Try.params7] at hA hval hsz
  obtain ⟨v0, vs0, d0, ds0, p0, q0, hargs, rfl, rfl, h0, r0⟩ := trodAll_cons hA
  obtain ⟨rfl, rfl, rfl⟩ := trodAll_nil r0
  obtain rfl : args = #[v0] := by cases args; simp_all
  obtain ⟨rfl, rfl⟩ := trodVars_none hV
  obtain ⟨c0, rfl, -⟩ := okWide_struct Try.underlying25 (hval 0 25 v0 rfl rfl)
  have k0 := h0
  have lt0 : ∀ x ∈ p0, x.block < W.heap.size := by obtain ⟨m, hm⟩ := k0; exact DataW.trod_lt m _ _ _ hm
  obtain ⟨x0, hx0⟩ := opens_refHost.arg h0 hsz (j := 0) rfl rfl
  clear hA0 hval0
  refine (hall_walk c0.toList x0 W hx0).mono fun e W' ⟨he, bel⟩ => ?_
  subst he
  exact ⟨_, rfl, _, _, _, [], _, [], hW', trodAll_mk1 (shut_bool Try.underlying4 _), (trodAll_cons_mk (Below.trod laidOut (by kernel_rfl) (of_decide_eq_true (by kernel_rfl)) k0 bel lt0) trodAll_mk0), rfl, bel.frame _, fun h => by cases h⟩

theorem hostAll_holds : Rows.HostAllSaid :=
  OpenClaim.holds_of_wide 7 Try.f7 rfl rfl rfl rfl rfl rfl rfl ⟨rfl, rfl, rfl, rfl, rfl⟩ rfl rfl rfl rfl rfl (by kernel_rfl) Try.func7 (by kernel_rfl)
    (of_decide_eq_true (by kernel_rfl)) (by unfold Func.isWrapper; first | (rw [if_pos (by decide +kernel)]; kernel_rfl) | (rw [if_neg (by decide +kernel)]; exact ⟨rfl, rfl⟩))
    (fun os started H enc _ => hall_lifted os started H enc)

end Go.Proofs.Ytckcicomkapdeaa
