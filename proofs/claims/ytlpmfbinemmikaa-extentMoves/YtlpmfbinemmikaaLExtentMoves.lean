/-
  What moves, and what a map stands in, are as the page says, at whatever map, span and place; the map stays. Conditions: none.
-/
import Derived.Test.YtlpmfbinemmikaaEAlive
import Derived.Test.YtlpmfbinemmikaaEFrame
import Derived.Test.YtlpmfbinemmikaaXZ
import Derived.Test.YtlpmfbinemmikaaXX
import Derived.Test.YtlpmfbinemmikaaRPE
import Derived.Test.YtlpmfbinemmikaaREX
namespace Go.Proofs.Ytlpmfbinemmikaa
open Go.ChangeShapes Go.WideShapes Go.ChangeAt Go.RowKit
set_option linter.unusedVariables false

theorem sameExts_eq (w : World) (P P' : Nat → Prop) (a a' : Option Addr) (n c n' c' : Nat) (l m : List Ext) (hL : rExts.rd w P [.slice a n c] l) (hM : rExts.rd w P' [.slice a' n' c'] m) (h : l = m) :
    Calls Try.prog 19 #[.slice a n c, .slice a' n' c'] w fun e w' => e = .returned (.bool true) ∧ Below w.heap.size w w' := by
  refine (sameExts_u w P P' a a' n c n' c' l m hL hM).mono ?_
  rintro e w' ⟨rfl, b⟩
  exact ⟨by rw [decide_eq_true h], b⟩

theorem sameSpns_eq (w : World) (P P' : Nat → Prop) (a a' : Option Addr) (n c n' c' : Nat) (l m : List Spn) (hL : rSpns.rd w P [.slice a n c] l) (hM : rSpns.rd w P' [.slice a' n' c'] m) (h : l = m) :
    Calls Try.prog 27 #[.slice a n c, .slice a' n' c'] w fun e w' => e = .returned (.bool true) ∧ Below w.heap.size w w' := by
  refine (sameSpns_u w P P' a a' n c n' c' l m hL hM).mono ?_
  rintro e w' ⟨rfl, b⟩
  exact ⟨by rw [decide_eq_true h], b⟩

theorem Ex.moveL_len (l : List Ext) (x : Spn) (t : Int) : (Ex.moveL l x t).length ≤ 1024 := by
  by_cases h : Ex.moveE l x t = 0
  · exact (Ex.moveL_ok h).2.1.1
  · rw [show Ex.moveL l x t = [] from if_neg h]; decide

theorem Ex.usedL_len (l : List Ext) : (Ex.usedL l).length ≤ 1024 := by
  by_cases h : Ex.Ok l
  · rw [show Ex.usedL l = (Ex.sortSpans (Ex.spans l)).foldl Ex.glue [] from if_pos h]
    refine Nat.le_trans (Ex.glue_len _) ?_
    rw [Ex.sorted_len]
    unfold Ex.spans
    rw [List.length_map]
    exact h.1
  · rw [show Ex.usedL l = [] from if_neg h]; decide

set_option maxRecDepth 20000 in
set_option maxHeartbeats 8000000 in
theorem emoves_walk (a : Option Addr) (n c : Nat) (l : List Ext) (cs : List Value) (x : Spn) (t : Int) (W : World) (h0 : rExts.rd W (fun b => b < W.heap.size) [.slice a n c] l) (h1 : rSpn.rd W (fun b => b < W.heap.size) cs x) (ht1 : -9223372036854775808 ≤ t) (ht2 : t ≤ 9223372036854775807) :
    Calls Try.prog 4 #[.slice a n c, .agg cs.toArray, .int .i64 t] W fun e W' => e = .returned (.bool true) ∧ Below W.heap.size W W' := by
  have HR : Hid _ := h0
  have HLB : Hid (l.length ≤ 5864062014634) := by
    obtain ⟨h, -, -, h4⟩ := rList_len h0
    unfold Hid
    rw [h]
    have h4 : n * 24 ≤ 140737488351232 := h4
    omega
  obtain ⟨rfl, hx3⟩ := rSpn_rd.1 h1
  obtain ⟨w0, hw0, V0, b0, z0⟩ := boxedRow W 44 [.int .i64 x.1, .int .i64 x.2]
  have HV0 : Hid (Row w0 W.heap.size 44 [.int .i64 x.1, .int .i64 x.2]) := V0
  have B0 : Hid (Below W.heap.size W w0) := b0
  have HX : Hid (In2 x) := hx3
  rw [show (spn2 x).toArray = #[.int .i64 x.1, .int .i64 x.2] from rfl]
  clear V0 b0 z0 h1 hx3 h0
  go_enter Try.func4, Try.ntmps4
  go_wp2_with fail
  refine (copyExts_u _ _ _ _ _ l (Rep.below HR.out B0.out)).mono ?_
  rintro e w1 ⟨b, rfl, ho, b1⟩
  obtain ⟨a1, c1, rfl, -, -⟩ := ho.slice
  have B1 : Hid (Below W.heap.size W w1) := on B0.out b1
  have HV1 : Hid (Row w1 W.heap.size 44 [.int .i64 x.1, .int .i64 x.2]) := HV0.out.below b1
  have HO1 : Hid (rExts.rd w1 (fun b => w0.heap.size ≤ b) [.slice a1 l.length c1] l) := ho.rd HLB.out
  clear ho b1
  obtain ⟨x0, x1⟩ := HV1.out.two
  go_wp2_with fail
  refine (extMove_u _ _ _ _ _ l HO1.out x t HX.out).mono ?_
  rintro e w2 ⟨b, rfl, ho, b2⟩
  obtain ⟨a2, c2, rfl, -, -⟩ := ho.slice
  have B2 : Hid (Below W.heap.size W w2) := on B1.out b2
  have HV2 : Hid (Row w2 W.heap.size 44 [.int .i64 x.1, .int .i64 x.2]) := HV1.out.below b2
  have HO2 : Hid (rExts.rd w2 (fun b => w0.heap.size ≤ b) [.slice a1 l.length c1] l) := Rep.below HO1.out b2
  have HA2 : Hid (rExts.rd w2 (fun b => w1.heap.size ≤ b) [.slice a2 (Ex.moveL l x t).length c2] (Ex.moveL l x t)) := ho.rd (by have := Ex.moveL_len l x t; omega)
  clear b2 ho x0 x1
  obtain ⟨x0, x1⟩ := HV2.out.two
  go_wp2_with fail
  refine (refMove_u _ _ _ _ _ l (Rep.below HR.out B2.out) x t).mono ?_
  rintro e w3 ⟨b, rfl, ho, b3⟩
  obtain ⟨a3, c3, rfl, -, -⟩ := ho.slice
  have B3 : Hid (Below W.heap.size W w3) := on B2.out b3
  have HV3 : Hid (Row w3 W.heap.size 44 [.int .i64 x.1, .int .i64 x.2]) := HV2.out.below b3
  have HO3 : Hid (rExts.rd w3 (fun b => w0.heap.size ≤ b) [.slice a1 l.length c1] l) := Rep.below HO2.out b3
  have HA3 : Hid (rExts.rd w3 (fun b => w1.heap.size ≤ b) [.slice a2 (Ex.moveL l x t).length c2] (Ex.moveL l x t)) := Rep.below HA2.out b3
  have HB3 : Hid (rExts.rd w3 (fun b => w2.heap.size ≤ b) [.slice a3 (Ex.moveL l x t).length c3] (Ex.moveL l x t)) := ho.rd (by have := Ex.moveL_len l x t; omega)
  clear b3 ho x0 x1
  go_wp2_with fail
  refine (extUsed_u _ _ _ _ _ l HO3.out).mono ?_
  rintro e w4 ⟨b, rfl, ho, b4⟩
  obtain ⟨a4, c4, rfl, -, -⟩ := ho.slice
  have B4 : Hid (Below W.heap.size W w4) := on B3.out b4
  have HV4 : Hid (Row w4 W.heap.size 44 [.int .i64 x.1, .int .i64 x.2]) := HV3.out.below b4
  have HO4 : Hid (rExts.rd w4 (fun b => w0.heap.size ≤ b) [.slice a1 l.length c1] l) := Rep.below HO3.out b4
  have HA4 : Hid (rExts.rd w4 (fun b => w1.heap.size ≤ b) [.slice a2 (Ex.moveL l x t).length c2] (Ex.moveL l x t)) := Rep.below HA3.out b4
  have HB4 : Hid (rExts.rd w4 (fun b => w2.heap.size ≤ b) [.slice a3 (Ex.moveL l x t).length c3] (Ex.moveL l x t)) := Rep.below HB3.out b4
  have HC4 : Hid (rSpns.rd w4 (fun b => w3.heap.size ≤ b) [.slice a4 (Ex.usedL l).length c4] (Ex.usedL l)) := ho.rd (by have := Ex.usedL_len l; omega)
  clear b4 ho
  go_wp2_with fail
  refine (refUsed_u _ _ _ _ _ l (Rep.below HR.out B4.out)).mono ?_
  rintro e w5 ⟨b, rfl, ho, b5⟩
  obtain ⟨a5, c5, rfl, -, -⟩ := ho.slice
  have B5 : Hid (Below W.heap.size W w5) := on B4.out b5
  have HV5 : Hid (Row w5 W.heap.size 44 [.int .i64 x.1, .int .i64 x.2]) := HV4.out.below b5
  have HO5 : Hid (rExts.rd w5 (fun b => w0.heap.size ≤ b) [.slice a1 l.length c1] l) := Rep.below HO4.out b5
  have HA5 : Hid (rExts.rd w5 (fun b => w1.heap.size ≤ b) [.slice a2 (Ex.moveL l x t).length c2] (Ex.moveL l x t)) := Rep.below HA4.out b5
  have HB5 : Hid (rExts.rd w5 (fun b => w2.heap.size ≤ b) [.slice a3 (Ex.moveL l x t).length c3] (Ex.moveL l x t)) := Rep.below HB4.out b5
  have HC5 : Hid (rSpns.rd w5 (fun b => w3.heap.size ≤ b) [.slice a4 (Ex.usedL l).length c4] (Ex.usedL l)) := Rep.below HC4.out b5
  have HD5 : Hid (rSpns.rd w5 (fun b => w4.heap.size ≤ b) [.slice a5 (Ex.usedL l).length c5] (Ex.usedL l)) := ho.rd (by have := Ex.usedL_len l; omega)
  clear b5 ho
  generalize Ex.moveE l x t = ME at *
  generalize Ex.checkE l = CE at *
  have s1 : (ME == ME) = true := beq_self_eq_true ME
  have s2 : (CE == CE) = true := beq_self_eq_true CE
  go_wp2_with (go_at_call 18; refine (num5_u _ _).mono ?_; rintro e w9 ⟨rfl, rfl⟩)
  refine (sameExts_eq _ _ _ _ _ _ _ _ _ _ _ HA5.out HB5.out rfl).mono ?_
  rintro e w6 ⟨rfl, b6⟩
  have B6 : Hid (Below W.heap.size W w6) := on B5.out b6
  have HV6 : Hid (Row w6 W.heap.size 44 [.int .i64 x.1, .int .i64 x.2]) := HV5.out.below b6
  have HO6 : Hid (rExts.rd w6 (fun b => w0.heap.size ≤ b) [.slice a1 l.length c1] l) := Rep.below HO5.out b6
  have HA6 : Hid (rExts.rd w6 (fun b => w1.heap.size ≤ b) [.slice a2 (Ex.moveL l x t).length c2] (Ex.moveL l x t)) := Rep.below HA5.out b6
  have HB6 : Hid (rExts.rd w6 (fun b => w2.heap.size ≤ b) [.slice a3 (Ex.moveL l x t).length c3] (Ex.moveL l x t)) := Rep.below HB5.out b6
  have HC6 : Hid (rSpns.rd w6 (fun b => w3.heap.size ≤ b) [.slice a4 (Ex.usedL l).length c4] (Ex.usedL l)) := Rep.below HC5.out b6
  have HD6 : Hid (rSpns.rd w6 (fun b => w4.heap.size ≤ b) [.slice a5 (Ex.usedL l).length c5] (Ex.usedL l)) := Rep.below HD5.out b6
  clear b6
  go_wp2_with (go_at_call 18; refine (num5_u _ _).mono ?_; rintro e w9 ⟨rfl, rfl⟩)
  refine (sameSpns_eq _ _ _ _ _ _ _ _ _ _ _ HC6.out HD6.out rfl).mono ?_
  rintro e w7 ⟨rfl, b7⟩
  have B7 : Hid (Below W.heap.size W w7) := on B6.out b7
  have HV7 : Hid (Row w7 W.heap.size 44 [.int .i64 x.1, .int .i64 x.2]) := HV6.out.below b7
  have HO7 : Hid (rExts.rd w7 (fun b => w0.heap.size ≤ b) [.slice a1 l.length c1] l) := Rep.below HO6.out b7
  have HA7 : Hid (rExts.rd w7 (fun b => w1.heap.size ≤ b) [.slice a2 (Ex.moveL l x t).length c2] (Ex.moveL l x t)) := Rep.below HA6.out b7
  have HB7 : Hid (rExts.rd w7 (fun b => w2.heap.size ≤ b) [.slice a3 (Ex.moveL l x t).length c3] (Ex.moveL l x t)) := Rep.below HB6.out b7
  have HC7 : Hid (rSpns.rd w7 (fun b => w3.heap.size ≤ b) [.slice a4 (Ex.usedL l).length c4] (Ex.usedL l)) := Rep.below HC6.out b7
  have HD7 : Hid (rSpns.rd w7 (fun b => w4.heap.size ≤ b) [.slice a5 (Ex.usedL l).length c5] (Ex.usedL l)) := Rep.below HD6.out b7
  clear b7
  go_wp2_with (go_at_call 18; refine (num5_u _ _).mono ?_; rintro e w9 ⟨rfl, rfl⟩)
  refine (sameExts_eq _ _ _ _ _ _ _ _ _ _ _ HO7.out (Rep.below HR.out B7.out) rfl).mono ?_
  rintro e w8 ⟨rfl, b8⟩
  have B8 : Hid (Below W.heap.size W w8) := on B7.out b8
  have HV8 : Hid (Row w8 W.heap.size 44 [.int .i64 x.1, .int .i64 x.2]) := HV7.out.below b8
  have HO8 : Hid (rExts.rd w8 (fun b => w0.heap.size ≤ b) [.slice a1 l.length c1] l) := Rep.below HO7.out b8
  clear b8
  go_wp2_with (go_at_call 18; refine (num5_u _ _).mono ?_; rintro e w9 ⟨rfl, rfl⟩)
  refine (alive5_u _).mono ?_
  rintro e w9 ⟨rfl, b9⟩
  have B9 : Hid (Below W.heap.size W w9) := on B8.out b9
  have HV9 : Hid (Row w9 W.heap.size 44 [.int .i64 x.1, .int .i64 x.2]) := HV8.out.below b9
  have HO9 : Hid (rExts.rd w9 (fun b => w0.heap.size ≤ b) [.slice a1 l.length c1] l) := Rep.below HO8.out b9
  clear b9
  go_wp2_with (go_at_call 18; refine (num5_u _ _).mono ?_; rintro e w9 ⟨rfl, rfl⟩)
  go_ret
  exact ⟨by first | rfl | simp, B9.out⟩

set_option maxRecDepth 100000 in
theorem emoves_lifted (os : Os) (started : os.Started) (H : Type) (enc : TypeId × Value → H) :
    ReturnsInHanded {} Try.checked os 4 .any (Rows.extentMovesSpec.pre6 enc Try.prog Try.f4 Rows.extentMovesRow.domain false) (Rows.extentMovesSpec.post enc Try.prog Try.f4 false true false false) := by
  refine returnsInHanded_of_change_sized (C := Try.checked) own started (by kernel_rfl) Try.func4
    (ChangeSpec.witness6 (enc := enc) (C := Try.checked) false ⟨#[], #[.slice none 0 0, .agg #[.int .i64 0, .int .i64 0], .int .i64 0], []⟩ 8 (by kernel_rfl) (by kernel_rfl) (by kernel_rfl) (by kernel_rfl)) ?_
  intro W base args ds gs before hval0 hW _ hsz0 _
  have hsz : (DataW.weightsEach Try.prog (Try.f4.params.toList ++ Rows.extentMovesSpec.plain.varTypes Try.prog) (ds ++ gs)).all (· ≤ reachBytes) = true := hsz0
  clear hsz0
  have hval : ∀ (j : Nat) t v, Try.f4.params[j]? = some t → args[j]? = some v → Value.okWide Try.prog W .any base t v := hval0
  have hW' := hW
  obtain ⟨p, q, hA0, hV, rfl, hfz, hnd⟩ := hW
  have hA : DataW.TrodAll enc Try.prog W 0 (fun _ => true) true Try.f4.params.toList args.toList ds p := hA0
  rw [Try.params4] at hA hval hsz
  obtain ⟨v0, vs0, d0, ds0, p0, q0, hargs, rfl, rfl, h0, r0⟩ := trodAll_cons hA
  obtain ⟨v1, vs1, d1, ds1, p1, q1, rfl, rfl, rfl, h1, r1⟩ := trodAll_cons r0
  obtain ⟨v2, vs2, d2, ds2, p2, q2, rfl, rfl, rfl, h2, r2⟩ := trodAll_cons r1
  obtain ⟨rfl, rfl, rfl⟩ := trodAll_nil r2
  obtain rfl : args = #[v0, v1, v2] := by cases args; simp_all
  obtain ⟨rfl, rfl⟩ := trodVars_none hV
  obtain ⟨a0, len0, cap0, rfl⟩ := okWide_slice Try.underlying22 (hval 0 22 v0 rfl rfl)
  have k0 := h0
  have lt0 : ∀ x ∈ p0, x.block < W.heap.size := by obtain ⟨m, hm⟩ := k0; exact DataW.trod_lt m _ _ _ hm
  obtain ⟨x0, hx0⟩ := opens_exts.arg h0 hsz (j := 0) rfl rfl
  obtain ⟨c1, rfl, -⟩ := okWide_struct Try.underlying44 (hval 1 44 v1 rfl rfl)
  have k1 := h1
  have lt1 : ∀ x ∈ p1, x.block < W.heap.size := by obtain ⟨m, hm⟩ := k1; exact DataW.trod_lt m _ _ _ hm
  obtain ⟨x1, hx1⟩ := opens_span.arg h1 hsz (j := 1) rfl rfl
  obtain ⟨a2, rfl, rfl, rfl, w2⟩ := open_int Try.underlying3 (hval 2 3 v2 rfl rfl) h2
  have i2 := bounds_i64 w2
  clear hA0 hval0
  refine (emoves_walk a0 len0 cap0 x0 c1.toList x1 a2 W hx0 hx1 (by omega) (by omega)).mono fun e W' ⟨he, bel⟩ => ?_
  subst he
  exact ⟨_, rfl, _, _, _, [], _, [], hW', trodAll_mk1 (shut_bool Try.underlying4 _), (trodAll_cons_mk (Below.trod laidOut (by kernel_rfl) (of_decide_eq_true (by kernel_rfl)) k0 bel lt0) (trodAll_cons_mk (Below.trod laidOut (by kernel_rfl) (of_decide_eq_true (by kernel_rfl)) k1 bel lt1) (trodAll_cons_mk (shut_int Try.underlying3 w2) trodAll_mk0))), rfl, bel.frame _, fun h => by cases h⟩

theorem extentMoves_holds : Rows.ExtentMovesSaid :=
  OpenClaim.holds_of_wide 4 Try.f4 rfl rfl rfl rfl rfl rfl rfl ⟨rfl, rfl, rfl, rfl, rfl⟩ rfl rfl rfl rfl rfl (by kernel_rfl) Try.func4 (by kernel_rfl)
    (of_decide_eq_true (by kernel_rfl)) (by unfold Func.isWrapper; first | (rw [if_pos (by decide +kernel)]; kernel_rfl) | (rw [if_neg (by decide +kernel)]; exact ⟨rfl, rfl⟩))
    (fun os started H enc _ => emoves_lifted os started H enc)

end Go.Proofs.Ytlpmfbinemmikaa
