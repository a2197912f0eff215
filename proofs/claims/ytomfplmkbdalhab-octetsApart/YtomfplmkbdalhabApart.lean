/-
  The statement OctetsApart holds: for every a, b and size the law returns true and its arguments read as before. Conditions: none.
-/
import Derived.Test.YtomfplmkbdalhabRows
import Derived.Test.YtomfplmkbdalhabAlive
import Derived.WalkKit
import Derived.ProofKit
import Derived.OpenShut
import Derived.ShutString
import Derived.ChangeOld
import Derived.Below
namespace Go.Proofs.Ytomfplmkbdalhab
open Go.ChangeShapes Go.WideShapes Go.ChangeAt Go.RowKit
open Go.ChangeMaps (open_string shut_string)
set_option linter.unusedVariables false

theorem own : ownKnob Try.prog.godebug = none := by kernel_rfl

theorem wf_u64 {n : Int} (h : (Lit.int .u64 n).wf = true) : ∃ m : Nat, n = (m : Int) ∧ m < 18446744073709551616 := by
  have := bounds_u64 h
  exact ⟨n.toNat, by omega, by omega⟩

set_option maxHeartbeats 800000 in
theorem apart_arg (a b s : Int) (w : World) (h : ¬ (1 ≤ s ∧ s ≤ 8)) :
    Calls Try.prog 3 #[.int .u64 a, .int .u64 b, .int .i64 s] w fun e w' => e = .returned (.bool true) ∧ Below w.heap.size w w' := by
  go_enter Try.func3, Try.ntmps3
  go_wp2_with (first
    | (go_at_call 5; refine (alive_any _).mono ?_; rintro e w1 ⟨rfl, hb1⟩)
    | (go_at_call 6; refine (put_arg _ _ _ h).mono ?_; rintro e w2 ⟨rfl, rfl⟩)
    | (go_at_call 7; refine (num_any _ _).mono ?_; rintro e w3 ⟨rfl, rfl⟩))
  go_ret
  exact ⟨rfl, hb1⟩

set_option maxHeartbeats 800000 in
theorem apart_no (a : Nat) (b : Nat) (s : Nat) (w : World) (h1 : 1 ≤ s) (h2 : s ≤ 8) (h : 256 ^ s ≤ a) :
    Calls Try.prog 3 #[.int .u64 a, .int .u64 b, .int .i64 s] w fun e w' => e = .returned (.bool true) ∧ Below w.heap.size w w' := by
  by_cases h3 : 256 ^ s ≤ b
  · go_enter Try.func3, Try.ntmps3
    go_wp2_with fail
    refine (alive_any _).mono ?_
    rintro e w1 ⟨rfl, hb1⟩
    go_wp2_with fail
    refine (put_range a s _ _ rfl rfl _ h1 h2 h).mono ?_
    rintro e w2 ⟨rfl, rfl⟩
    go_wp2_with fail
    refine (put_range b s _ _ rfl rfl _ h1 h2 h3).mono ?_
    rintro e w2 ⟨rfl, rfl⟩
    go_wp2_with (go_at_call 7; refine (num_any _ _).mono ?_; rintro e w3 ⟨rfl, rfl⟩)
    go_ret
    exact ⟨rfl, hb1⟩
  · go_enter Try.func3, Try.ntmps3
    go_wp2_with fail
    refine (alive_any _).mono ?_
    rintro e w1 ⟨rfl, hb1⟩
    go_wp2_with fail
    refine (put_range a s _ _ rfl rfl _ h1 h2 h).mono ?_
    rintro e w2 ⟨rfl, rfl⟩
    go_wp2_with fail
    refine (put_ok b s _ _ rfl rfl _ h1 h2 (by omega)).mono ?_
    rintro e w2 ⟨rfl, hown, hb2⟩
    go_wp2_with (go_at_call 7; refine (num_any _ _).mono ?_; rintro e w3 ⟨rfl, rfl⟩)
    go_ret
    exact ⟨rfl, hb1.trans (hb2.mono hb1.size)⟩

set_option maxHeartbeats 800000 in
theorem apart_half (a : Nat) (b : Nat) (s : Nat) (w : World) (h1 : 1 ≤ s) (h2 : s ≤ 8) (h : a < 256 ^ s) (h3 : 256 ^ s ≤ b) :
    Calls Try.prog 3 #[.int .u64 a, .int .u64 b, .int .i64 s] w fun e w' => e = .returned (.bool true) ∧ Below w.heap.size w w' := by
  have hs0 : ((s : Int) == 0) = false := beq_eq_false_iff_ne.2 (by omega)
  go_enter Try.func3, Try.ntmps3
  go_wp2_with fail
  refine (alive_any _).mono ?_
  rintro e w1 ⟨rfl, hb1⟩
  go_wp2_with fail
  refine (put_ok a s _ _ rfl rfl _ h1 h2 h).mono ?_
  rintro e w2 ⟨rfl, hown, hb2⟩
  go_wp2_with fail
  refine (put_range b s _ _ rfl rfl _ h1 h2 h3).mono ?_
  rintro e w2 ⟨rfl, rfl⟩
  go_wp2_with (go_at_call 7; refine (num_any _ _).mono ?_; rintro e w3 ⟨rfl, rfl⟩)
  go_ret
  exact ⟨rfl, hb1.trans (hb2.mono hb1.size)⟩

set_option maxHeartbeats 800000 in
theorem apart_both (a : Nat) (b : Nat) (s : Nat) (w : World) (h1 : 1 ≤ s) (h2 : s ≤ 8) (h : a < 256 ^ s) (h3 : b < 256 ^ s) :
    Calls Try.prog 3 #[.int .u64 a, .int .u64 b, .int .i64 s] w fun e w' => e = .returned (.bool true) ∧ Below w.heap.size w w' := by
  go_enter Try.func3, Try.ntmps3
  go_wp2_with fail
  refine (alive_any _).mono ?_
  rintro e w1 ⟨rfl, hb1⟩
  go_wp2_with fail
  refine (put_ok a s _ _ rfl rfl _ h1 h2 h).mono ?_
  rintro e w2 ⟨rfl, hown, hb2⟩
  go_wp2_with fail
  refine (put_ok b s _ _ rfl rfl _ h1 h2 h3).mono ?_
  rintro e w3 ⟨rfl, hown3, hb3⟩
  have hA : IsB w3 (some ⟨w1.heap.size, 0, none⟩) s (Oct.octs a s) := (isB_of_owns hown).below hb3
  have hB : IsB w3 (some ⟨w2.heap.size, 0, none⟩) s (Oct.octs b s) := isB_of_owns hown3
  have HB : Below w.heap.size w w3 := (hb1.trans (hb2.mono hb1.size)).trans (hb3.mono (Nat.le_trans hb1.size hb2.size))
  have he : (Oct.octs a s == Oct.octs b s) = ((a : Int) == (b : Int)) := by
    by_cases e : a = b
    · subst e; simp
    · have e2 : Oct.octs a s ≠ Oct.octs b s := fun k => e (Oct.octs_inj h h3 k)
      rw [beq_eq_false_iff_ne.2 e2, beq_eq_false_iff_ne.2 (by omega)]
  have HE : Hid _ := he
  clear hb1 hb2 hb3 hown hown3 he h h3
  go_wp2_with (first
    | (go_at_call 7; refine (num_any _ _).mono ?_; rintro e w4 ⟨rfl, rfl⟩)
    | (go_at_call 8; refine (sameBytes_any _ _ _ _ _ _ _ _ _ hA hB).mono ?_; rintro e w4 ⟨rfl, rfl⟩; rw [HE.out]))
  go_ret
  exact ⟨by simp, HB⟩

theorem apart_walk (a0 : Int) (a1 : Int) (a2 : Int) (w0 : (Lit.int .u64 a0).wf = true) (w1 : (Lit.int .u64 a1).wf = true) (w : World) :
    Calls Try.prog 3 #[.int .u64 a0, .int .u64 a1, .int .i64 a2] w fun e w' => e = .returned (.bool true) ∧ Below w.heap.size w w' := by
  by_cases h : 1 ≤ a2 ∧ a2 ≤ 8
  · obtain ⟨a, rfl, ha⟩ := wf_u64 w0
    obtain ⟨b, rfl, hb⟩ := wf_u64 w1
    obtain ⟨s, rfl⟩ := Int.eq_ofNat_of_zero_le (show 0 ≤ a2 by omega)
    have h1 : 1 ≤ s := by omega
    have h2 : s ≤ 8 := by omega
    by_cases h3 : a < 256 ^ s
    · by_cases h4 : b < 256 ^ s
      · exact apart_both a b s w h1 h2 h3 h4
      · exact apart_half a b s w h1 h2 h3 (by omega)
    · exact apart_no a b s w h1 h2 (by omega)
  · exact apart_arg a0 a1 a2 w h

set_option maxRecDepth 100000 in
theorem apart_lifted (os : Os) (started : os.Started) (H : Type) (enc : TypeId × Value → H) :
    ReturnsInHanded {} Try.checked os 3 .any (Rows.octetsApartSpec.pre6 enc Try.prog Try.f3 Rows.octetsApartRow.domain false) (Rows.octetsApartSpec.post enc Try.prog Try.f3 false true false false) := by
  refine returnsInHanded_of_change (C := Try.checked) own started (by kernel_rfl) Try.func3
    (ChangeSpec.witness6 (enc := enc) (C := Try.checked) false ⟨#[], #[.int .u64 0, .int .u64 0, .int .i64 0], []⟩ 8 (by kernel_rfl) (by kernel_rfl) (by kernel_rfl) (by kernel_rfl)) ?_
  intro W base args ds gs before hval0 hW hcnd _
  have hval : ∀ (j : Nat) t v, Try.f3.params[j]? = some t → args[j]? = some v → Value.okWide Try.prog W .any base t v := hval0
  have hW' := hW
  obtain ⟨p, q, hA0, hV, rfl, hfz, hnd⟩ := hW
  have hA : DataW.TrodAll enc Try.prog W 0 (fun _ => true) true Try.f3.params.toList args.toList ds p := hA0
  rw [Try.params3] at hA hval
  obtain ⟨v0, vs0, d0, ds0, p0, q0, hargs, rfl, rfl, h0, r0⟩ := trodAll_cons hA
  obtain ⟨v1, vs1, d1, ds1, p1, q1, rfl, rfl, rfl, h1, r1⟩ := trodAll_cons r0
  obtain ⟨v2, vs2, d2, ds2, p2, q2, rfl, rfl, rfl, h2, r2⟩ := trodAll_cons r1
  obtain ⟨rfl, rfl, rfl⟩ := trodAll_nil r2
  obtain rfl : args = #[v0, v1, v2] := by cases args; simp_all
  obtain ⟨rfl, rfl⟩ := trodVars_none hV
  obtain ⟨a0, rfl, rfl, rfl, w0⟩ := open_int Try.underlying22 (hval 0 22 v0 rfl rfl) h0
  obtain ⟨a1, rfl, rfl, rfl, w1⟩ := open_int Try.underlying22 (hval 1 22 v1 rfl rfl) h1
  obtain ⟨a2, rfl, rfl, rfl, w2⟩ := open_int Try.underlying3 (hval 2 3 v2 rfl rfl) h2
  clear hA0 hval0
  simp only [List.append_nil] at hW'
  refine (apart_walk a0 a1 a2 w0 w1 W).mono fun e W' ⟨he, bel⟩ => ?_
  subst he
  exact ⟨_, rfl, _, _, _, [], _, [], hW', trodAll_mk1 (shut_bool Try.underlying4 _), (trodAll_cons_mk (shut_int Try.underlying22 w0) (trodAll_cons_mk (shut_int Try.underlying22 w1) (trodAll_cons_mk (shut_int Try.underlying3 w2) trodAll_mk0))), rfl, bel.frame _, fun h => by cases h⟩

theorem apart_over : Rows.octetsApartRow.holds Try.pinned (OpenSpec.ofChange Rows.octetsApartSpec) :=
  OpenClaim.holds_of_wide 3 Try.f3 rfl rfl rfl rfl rfl rfl rfl ⟨rfl, rfl, rfl, rfl, rfl⟩ rfl rfl rfl rfl rfl (by kernel_rfl) Try.func3 (by kernel_rfl)
    (of_decide_eq_true (by kernel_rfl)) (by unfold Func.isWrapper; first | (rw [if_pos (by decide +kernel)]; kernel_rfl) | (rw [if_neg (by decide +kernel)]; exact ⟨rfl, rfl⟩))
    (fun os started H enc _ => apart_lifted os started H enc)

theorem octetsApart_holds : Rows.OctetsApartSaid := apart_over

end Go.Proofs.Ytomfplmkbdalhab
