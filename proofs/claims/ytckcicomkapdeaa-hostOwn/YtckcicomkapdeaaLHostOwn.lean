/-
  The host that follows shares nothing with what was handed in. Conditions: none.
-/
import Derived.Test.YtckcicomkapdeaaRAlive
import Derived.Test.YtckcicomkapdeaaROf
import Derived.Test.YtckcicomkapdeaaRFrame
import Derived.Test.YtckcicomkapdeaaRWrite
import Derived.Test.YtckcicomkapdeaaRAlike
import Derived.Test.YtckcicomkapdeaaRSpoil
namespace Go.Proofs.Ytckcicomkapdeaa
open Go.ChangeShapes Go.WideShapes Go.ChangeAt Go.RowKit
set_option linter.unusedVariables false

theorem Spoilt.belowOf {S : Nat → Prop} {B : Nat} {w0 w w' : World} (h : Below B w0 w) (k : Spoilt S w w') (hS : ∀ b, b < B → ¬ S b) : Below B w0 w' :=
  h.trans ⟨k.os, k.tape, k.output, by rw [k.size]; exact Nat.le_refl _, fun b hb => k.block b (hS b hb)⟩

set_option maxRecDepth 20000 in
set_option maxHeartbeats 16000000 in
theorem hown_walk (cs : List Value) (s : Host) (p : Int) (xa : Option Addr) (xn xc : Nat) (D : List UInt8) (ka : Option Addr) (kn kc : Nat) (K : List Bool) (W : World) (h0 : rHost.rd W (fun b => b < W.heap.size) cs s) (hp1 : -9223372036854775808 ≤ p) (hp2 : p ≤ 9223372036854775807) (h1 : rBytes.rd W (fun b => b < W.heap.size) [.slice xa xn xc] D) (h2 : rBools.rd W (fun b => b < W.heap.size) [.slice ka kn kc] K) :
    Calls Try.prog 8 #[.agg cs.toArray, .int .i64 p, .slice xa xn xc, .slice ka kn kc] W fun e W' => e = .returned (.bool true) ∧ Below W.heap.size W W' := by
  have h0' := h0
  obtain ⟨a, n, c, b, m, d, rfl, -, -, -, hm, -, -, -, hm9⟩ := rHost_cells h0'
  clear h0'
  have HM0 : Hid _ := hm
  have hxn : xn ≤ 140737488351232 := (rBytes_isB h1).2.2.2
  have HD0 : Hid _ := rBytes.weaken h1 (P' := fun _ => True) (fun _ _ _ => trivial)
  have HS0 : Hid _ := rHost.weaken h0 (P' := fun _ => True) (fun _ _ _ => trivial)
  have HK0 : Hid _ := rBools.weaken h2 (P' := fun _ => True) (fun _ _ _ => trivial)
  clear h0 h1 h2 hm
  have n1 : (Hst.writeE s p D == Hst.writeE s p D) = true := beq_self_eq_true _
  have n2 : (Hst.checkE s == Hst.checkE s) = true := beq_self_eq_true _
  obtain ⟨vs, hvs, -, -, -, bvs, zvs⟩ := boxed3 W 25 (.slice a n c) (.slice b m d) (.int .i64 s.2.2)
  have Vs : Hid (Var3 vs W.heap.size (.slice a n c) (.slice b m d) (.int .i64 s.2.2)) := by rw [← hvs]; exact var3_new _ _ _ _ _
  have HZs : Hid _ := zvs
  clear zvs
  go_enter Try.func8, Try.ntmps8
  go_wp2_with fail
  refine (alive_u _).mono ?_
  rintro e w1 ⟨rfl, b1⟩
  have X1 : Hid _ := (Vs.out.below b1)
  have p10 := X1.out.c0
  have p11 := X1.out.c1
  have p12 := X1.out.c2
  go_wp2_with fail
  refine (of_f _ _ _ s (Rep.below HS0.out (on bvs b1))).mono ?_
  rintro e w2 ⟨cs2, rfl, hrf2, b2⟩
  have hr2 := hostF_host hrf2
  obtain ⟨a2, n2, c2, d2, m2, e2, rfl, -, -, hn2, hm2, -, -, hn29, hm29⟩ := rHost_cells hr2
  obtain ⟨cA, dA, eA, hF2, cB, dB, eB, hG2, -⟩ := hrf2
  have HN2 : Hid _ := hn2
  have HM2 : Hid _ := hm2
  have hcA : cA = [.slice a2 n2 c2] ∧ cB = [.slice d2 m2 e2] := by
    have l1 := rFrees.len hF2
    have l2 := rWaitsF.len hG2
    obtain ⟨x1, rfl⟩ := List.length_eq_one_iff.1 l1
    obtain ⟨x2, rfl⟩ := List.length_eq_one_iff.1 l2
    subst eB
    simp only [List.cons_append, List.nil_append, List.cons.injEq] at eA
    obtain ⟨rfl, rfl, _⟩ := eA
    exact ⟨rfl, rfl⟩
  obtain ⟨rfl, rfl⟩ := hcA
  have HR2 : Hid _ := rHost.weaken hr2 (P' := fun _ => True) (fun _ _ _ => trivial)
  clear eA eB hr2 hn2 hm2
  go_wp2_with fail
  refine (copy_f _ _ xa xn xc _ (Rep.below HD0.out (on (on bvs b1) b2))).mono ?_
  rintro e w3 ⟨a3, c3, rfl, hr3, b3⟩
  have hz12 := b2.size
  have hz23 := b3.size
  have HF3 : Hid (rFrees.rd w3 (fun b => w1.heap.size ≤ b ∧ b < w3.heap.size) [.slice a2 n2 c2] s.1) := Rep.below (rFrees.weaken hF2 (fun b hb hl => ⟨hb, by omega⟩)) b3
  have HG3 : Hid (rWaitsF.rd w3 (fun b => w1.heap.size ≤ b ∧ b < w3.heap.size) [.slice d2 m2 e2] s.2.1) := Rep.below (rWaitsF.weaken hG2 (fun b hb hl => ⟨hb, by omega⟩)) b3
  have HI3 : Hid (rFree.rd w3 (fun b => w1.heap.size ≤ b ∧ b < w3.heap.size) [.slice a3 xn c3] D) := rFree.weaken hr3 (fun b hb hl => ⟨by have h9 : w2.heap.size ≤ b := hb; omega, hl⟩)
  clear hF2 hG2 hr3
  clear X1 p10 p11 p12
  obtain ⟨vo, hvo, -, -, -, bvo, zvo⟩ := boxed3 w3 30 (.slice a2 n2 c2) (.slice d2 m2 e2) (.int .i64 s.2.2)
  have Vo : Hid (Var3 vo w3.heap.size (.slice a2 n2 c2) (.slice d2 m2 e2) (.int .i64 s.2.2)) := by rw [← hvo]; exact var3_new _ _ _ _ _
  have HZo : Hid _ := zvo
  clear zvo
  have X2 : Hid _ := Vo.out
  have p20 := X2.out.c0
  have p21 := X2.out.c1
  have p22 := X2.out.c2
  have hsz4 : w3.heap.size ≤ vo.heap.size := (bvo).size
  go_wp2_with fail
  refine (write_u _ (fun _ => True) _ _ p a3 xn c3 D hp1 hp2 (Rep.below HR2.out (on b3 bvo)) (rBytes.weaken (And.left (Rep.below HI3.out bvo)) (fun _ _ _ => trivial))).mono ?_
  rintro e w4 ⟨cs4, rfl, hr4, b4⟩
  have hr4' := hr4
  obtain ⟨a4, n4, c4, d4, m4, e4, rfl, hA4, hW4, hn4, hm4, -⟩ := rHost_cells hr4'
  clear hr4'
  obtain ⟨v4, hv4, -, -, -, bv4, zv4⟩ := boxed3 w4 30 (.slice a4 n4 c4) (.slice d4 m4 e4) (.int .i64 (Hst.writeS s p D).2.2)
  have V4 : Hid (Var3 v4 w4.heap.size (.slice a4 n4 c4) (.slice d4 m4 e4) (.int .i64 (Hst.writeS s p D).2.2)) := by rw [← hv4]; exact var3_new _ _ _ _ _
  have HZ4 : Hid _ := zv4
  clear zv4
  have HA4 : Hid _ := hA4
  clear hA4
  have HW4 : Hid _ := hW4
  clear hW4
  have HN4 : Hid _ := hn4
  clear hn4
  have HM4 : Hid _ := hm4
  clear hm4
  have HR4 : Hid _ := rHost.weaken hr4 (P' := fun b => w3.heap.size ≤ b) (fun b hb _ => by have h9 : vo.heap.size ≤ b := hb; omega)
  clear hr4
  clear X2 p20 p21 p22
  have X3 : Hid _ := (Vs.out.below (on (on (on (on (on b1 b2) b3) bvo) b4) bv4))
  have p30 := X3.out.c0
  have p31 := X3.out.c1
  have p32 := X3.out.c2
  have hsz5 : w3.heap.size ≤ v4.heap.size := ((on (on bvo b4) bv4)).size
  go_wp2_with fail
  refine (refWrite_u _ (fun _ => True) _ _ p xa xn xc D hp1 hp2 (Rep.below HS0.out (on (on (on (on (on (on bvs b1) b2) b3) bvo) b4) bv4)) (Rep.below HD0.out (on (on (on (on (on (on bvs b1) b2) b3) bvo) b4) bv4))).mono ?_
  rintro e w5 ⟨cs5, rfl, hr5, b5⟩
  have hr5' := hr5
  obtain ⟨a5, n5, c5, d5, m5, e5, rfl, hA5, hW5, hn5, hm5, -⟩ := rHost_cells hr5'
  clear hr5'
  obtain ⟨v5, hv5, -, -, -, bv5, zv5⟩ := boxed3 w5 25 (.slice a5 n5 c5) (.slice d5 m5 e5) (.int .i64 (Hst.writeS s p D).2.2)
  have V5 : Hid (Var3 v5 w5.heap.size (.slice a5 n5 c5) (.slice d5 m5 e5) (.int .i64 (Hst.writeS s p D).2.2)) := by rw [← hv5]; exact var3_new _ _ _ _ _
  have HZ5 : Hid _ := zv5
  clear zv5
  have HA5 : Hid _ := hA5
  clear hA5
  have HW5 : Hid _ := hW5
  clear hW5
  have HN5 : Hid _ := hn5
  clear hn5
  have HM5 : Hid _ := hm5
  clear hm5
  have HR5 : Hid _ := rHost.weaken hr5 (P' := fun b => w3.heap.size ≤ b) (fun b hb _ => by have h9 : v4.heap.size ≤ b := hb; omega)
  clear hr5
  clear X3 p30 p31 p32
  have X4 : Hid _ := (Vo.out.below (on (on (on b4 bv4) b5) bv5))
  have p40 := X4.out.c0
  have p41 := X4.out.c1
  have p42 := X4.out.c2
  have hsz6 : w3.heap.size ≤ v5.heap.size := ((on (on (on (on bvo b4) bv4) b5) bv5)).size
  go_wp2_with fail
  refine (crash_u _ (fun _ => True) _ _ ka kn kc K (Rep.below HR2.out (on (on (on (on (on b3 bvo) b4) bv4) b5) bv5)) (Rep.below HK0.out (on (on (on (on (on (on (on (on bvs b1) b2) b3) bvo) b4) bv4) b5) bv5))).mono ?_
  rintro e w6 ⟨cs6, rfl, hr6, b6⟩
  have hr6' := hr6
  obtain ⟨a6, n6, c6, d6, m6, e6, rfl, hA6, hW6, hn6, hm6, -⟩ := rHost_cells hr6'
  clear hr6'
  obtain ⟨v6, hv6, -, -, -, bv6, zv6⟩ := boxed3 w6 30 (.slice a6 n6 c6) (.slice d6 m6 e6) (.int .i64 (Hst.crashS s K).2.2)
  have V6 : Hid (Var3 v6 w6.heap.size (.slice a6 n6 c6) (.slice d6 m6 e6) (.int .i64 (Hst.crashS s K).2.2)) := by rw [← hv6]; exact var3_new _ _ _ _ _
  have HZ6 : Hid _ := zv6
  clear zv6
  have HA6 : Hid _ := hA6
  clear hA6
  have HW6 : Hid _ := hW6
  clear hW6
  have HN6 : Hid _ := hn6
  clear hn6
  have HM6 : Hid _ := hm6
  clear hm6
  have HR6 : Hid _ := rHost.weaken hr6 (P' := fun b => w3.heap.size ≤ b) (fun b hb _ => by have h9 : v5.heap.size ≤ b := hb; omega)
  clear hr6
  clear X4 p40 p41 p42
  have X5 : Hid _ := (Vs.out.below (on (on (on (on (on (on (on (on (on b1 b2) b3) bvo) b4) bv4) b5) bv5) b6) bv6))
  have p50 := X5.out.c0
  have p51 := X5.out.c1
  have p52 := X5.out.c2
  have hsz7 : w3.heap.size ≤ v6.heap.size := ((on (on (on (on (on (on bvo b4) bv4) b5) bv5) b6) bv6)).size
  go_wp2_with fail
  refine (refCrash_u _ (fun _ => True) _ _ ka kn kc K (Rep.below HS0.out (on (on (on (on (on (on (on (on (on (on bvs b1) b2) b3) bvo) b4) bv4) b5) bv5) b6) bv6)) (Rep.below HK0.out (on (on (on (on (on (on (on (on (on (on bvs b1) b2) b3) bvo) b4) bv4) b5) bv5) b6) bv6))).mono ?_
  rintro e w7 ⟨cs7, rfl, hr7, b7⟩
  have hr7' := hr7
  obtain ⟨a7, n7, c7, d7, m7, e7, rfl, hA7, hW7, hn7, hm7, -⟩ := rHost_cells hr7'
  clear hr7'
  obtain ⟨v7, hv7, -, -, -, bv7, zv7⟩ := boxed3 w7 25 (.slice a7 n7 c7) (.slice d7 m7 e7) (.int .i64 (Hst.crashS s K).2.2)
  have V7 : Hid (Var3 v7 w7.heap.size (.slice a7 n7 c7) (.slice d7 m7 e7) (.int .i64 (Hst.crashS s K).2.2)) := by rw [← hv7]; exact var3_new _ _ _ _ _
  have HZ7 : Hid _ := zv7
  clear zv7
  have HA7 : Hid _ := hA7
  clear hA7
  have HW7 : Hid _ := hW7
  clear hW7
  have HN7 : Hid _ := hn7
  clear hn7
  have HM7 : Hid _ := hm7
  clear hm7
  have HR7 : Hid _ := rHost.weaken hr7 (P' := fun b => w3.heap.size ≤ b) (fun b hb _ => by have h9 : v6.heap.size ≤ b := hb; omega)
  clear hr7
  clear X5 p50 p51 p52
  have hszV : w3.heap.size ≤ v7.heap.size := ((on (on (on (on (on (on (on (on bvo b4) bv4) b5) bv5) b6) bv6) b7) bv7)).size
  have HO1 : Hid (Octs (fun b => w1.heap.size ≤ b ∧ b < w3.heap.size) v7 a3 xn) := octs_of (Rep.below HI3.out (on (on (on (on (on (on (on (on bvo b4) bv4) b5) bv5) b6) bv6) b7) bv7))
  have HO2 : Hid (OctsAll (fun b => w1.heap.size ≤ b ∧ b < w3.heap.size) v7 a2 n2) := octsAll_of (Rep.below HF3.out (on (on (on (on (on (on (on (on bvo b4) bv4) b5) bv5) b6) bv6) b7) bv7))
  have HO3 : Hid (ActsAll (fun b => w1.heap.size ≤ b ∧ b < w3.heap.size) v7 d2 m2) := actsAll_of (Rep.below HG3.out (on (on (on (on (on (on (on (on bvo b4) bv4) b5) bv5) b6) bv6) b7) bv7)) HM2.out
  have VO : Hid (Var3 v7 w3.heap.size (.slice a2 n2 c2) (.slice d2 m2 e2) (.int .i64 s.2.2)) := (Vo.out.below (on (on (on (on (on (on (on b4 bv4) b5) bv5) b6) bv6) b7) bv7))
  have HV4 : Hid _ := (Rep.below HR4.out (on (on (on (on (on (on bv4 b5) bv5) b6) bv6) b7) bv7))
  have VV4 : Hid _ := (V4.out.below (on (on (on (on (on b5 bv5) b6) bv6) b7) bv7))
  have hbx4 : w3.heap.size ≤ w4.heap.size := ((on bvo b4)).size
  have HV5 : Hid _ := (Rep.below HR5.out (on (on (on (on bv5 b6) bv6) b7) bv7))
  have VV5 : Hid _ := (V5.out.below (on (on (on b6 bv6) b7) bv7))
  have hbx5 : w3.heap.size ≤ w5.heap.size := ((on (on (on bvo b4) bv4) b5)).size
  have HV6 : Hid _ := (Rep.below HR6.out (on (on bv6 b7) bv7))
  have VV6 : Hid _ := (V6.out.below (on b7 bv7))
  have hbx6 : w3.heap.size ≤ w6.heap.size := ((on (on (on (on (on bvo b4) bv4) b5) bv5) b6)).size
  have HV7 : Hid _ := (Rep.below HR7.out bv7)
  have VV7 : Hid _ := V7.out
  have hbx7 : w3.heap.size ≤ w7.heap.size := ((on (on (on (on (on (on (on bvo b4) bv4) b5) bv5) b6) bv6) b7)).size
  have BALL : Hid (Below W.heap.size W v7) := (on (on (on (on (on (on (on (on (on (on (on (on bvs b1) b2) b3) bvo) b4) bv4) b5) bv5) b6) bv6) b7) bv7)
  have hlow : W.heap.size ≤ w1.heap.size := ((on bvs b1)).size
  go_wp2_with fail
  refine (spoil_s _ (fun b => w1.heap.size ≤ b ∧ b < w3.heap.size) a3 xn c3 (by omega) HO1.out).mono ?_
  rintro e w8 ⟨rfl, sp8⟩
  have X8 : Hid _ := VO.out.keep (sp8.block _ (fun h => by omega))
  have y0 := X8.out.c0
  have y1 := X8.out.c1
  have y2 := X8.out.c2
  go_wp2_with fail
  refine (spoilList_s _ (fun b => w1.heap.size ≤ b ∧ b < w3.heap.size) a2 n2 c2 hn29 (OctsAll.spoilt HO2.out sp8)).mono ?_
  rintro e w9 ⟨rfl, sp9⟩
  have SP : Hid (Spoilt (fun b => w1.heap.size ≤ b ∧ b < w3.heap.size) v7 w9) := sp8.trans sp9
  clear X8 y0 y1 y2 sp8 sp9
  go_wp2_with fail
  go_loopw [19] (fun i wr => ∃ k : Nat, k ≤ m2 ∧ i = .int .i64 k ∧ Hid (Spoilt (fun b => w1.heap.size ≤ b ∧ b < w3.heap.size) v7 wr)) (fun i _ => m2 - (intOf i).toNat)
  case atStart => exact ⟨0, Nat.zero_le _, rfl, SP⟩
  case round =>
    obtain ⟨k, hk, rfl, SQ⟩ := hrel
    clear SP
    have XO : Hid _ := VO.out.keep (SQ.out.block _ (fun h => by omega))
    have y0 := XO.out.c0
    have y1 := XO.out.c1
    have y2 := XO.out.c2
    by_cases hlt : k < m2
    · rcases ActsAll.spoilt HO3.out SQ.out with h0 | ⟨g, off, rfl, hat⟩
      · omega
      · obtain ⟨x, l, e, hc, hl, ho⟩ := hat k hlt
        have HO : Hid _ := ho
        have hI : (k : Int) < (m2 : Int) := by omega
        clear hat ho
        go_wp2_with (go_at_call 30; refine (spoil_s _ (fun b => w1.heap.size ≤ b ∧ b < w3.heap.size) x l e hl HO.out).mono ?_; rintro e' w10 ⟨rfl, sp10⟩)
        go_roundw
        case rel => exact ⟨k + 1, by omega, by go_num, SQ.out.trans sp10⟩
        case measure => simp [intOf]; omega
    · obtain rfl : k = m2 := by omega
      have Z4 : Hid _ := Rep.kept HV4.out SQ.out.kept (fun b hb _ h => by have h9 : w3.heap.size ≤ b := hb; omega)
      have Z5 : Hid _ := Rep.kept HV5.out SQ.out.kept (fun b hb _ h => by have h9 : w3.heap.size ≤ b := hb; omega)
      have Z6 : Hid _ := Rep.kept HV6.out SQ.out.kept (fun b hb _ h => by have h9 : w3.heap.size ≤ b := hb; omega)
      have Z7 : Hid _ := Rep.kept HV7.out SQ.out.kept (fun b hb _ h => by have h9 : w3.heap.size ≤ b := hb; omega)
      have Y4 : Hid _ := VV4.out.keep (SQ.out.block _ (fun h => by omega))
      have Y5 : Hid _ := VV5.out.keep (SQ.out.block _ (fun h => by omega))
      have Y6 : Hid _ := VV6.out.keep (SQ.out.block _ (fun h => by omega))
      have Y7 : Hid _ := VV7.out.keep (SQ.out.block _ (fun h => by omega))
      have i0 := Y4.out.c0
      have i1 := Y4.out.c1
      have i2 := Y4.out.c2
      have j0 := Y5.out.c0
      have j1 := Y5.out.c1
      have j2 := Y5.out.c2
      have BF : Hid (Below W.heap.size W wr) := Spoilt.belowOf BALL.out SQ.out (fun b hb h => by omega)
      go_wp2_with fail
      refine (alike_u _ _ _ _ _ _ Z4.out Z5.out).mono ?_
      rintro e w11 ⟨rfl, b11⟩
      have K6 : Hid _ := Y6.out.below b11
      have K7 : Hid _ := Y7.out.below b11
      have k0 := K6.out.c0
      have k1 := K6.out.c1
      have k2 := K6.out.c2
      have l0 := K7.out.c0
      have l1 := K7.out.c1
      have l2 := K7.out.c2
      clear i0 i1 i2 j0 j1 j2
      go_wp2_with fail
      refine (num_u _ _).mono ?_
      rintro e w12 ⟨rfl, rfl⟩
      go_wp2_with fail
      refine (alike_u _ _ _ _ _ _ (Rep.below Z6.out b11) (Rep.below Z7.out b11)).mono ?_
      rintro e w13 ⟨rfl, b13⟩
      go_wp2_with fail
      refine (num_u _ _).mono ?_
      rintro e w14 ⟨rfl, rfl⟩
      go_wp2
      go_ret
      exact ⟨rfl, on (on BF.out b11) b13⟩

set_option maxRecDepth 100000 in
theorem hown_lifted (os : Os) (started : os.Started) (H : Type) (enc : TypeId × Value → H) :
    ReturnsInHanded {} Try.checked os 8 .any (Rows.hostOwnSpec.pre6 enc Try.prog Try.f8 Rows.hostOwnRow.domain false) (Rows.hostOwnSpec.post enc Try.prog Try.f8 false true false false) := by
  refine returnsInHanded_of_change_sized (C := Try.checked) own started (by kernel_rfl) Try.func8
    (ChangeSpec.witness6 (enc := enc) (C := Try.checked) false ⟨#[], #[.agg #[.slice none 0 0, .slice none 0 0, .int .i64 0], .int .i64 0, .slice none 0 0, .slice none 0 0], []⟩ 8 (by kernel_rfl) (by kernel_rfl) (by kernel_rfl) (by kernel_rfl)) ?_
  intro W base args ds gs before hval0 hW _ hsz0 _
  have hsz : (DataW.weightsEach Try.prog (Try.f8.params.toList ++ Rows.hostOwnSpec.plain.varTypes Try.prog) (ds ++ gs)).all (· ≤ reachBytes) = true := hsz0
  clear hsz0
  have hval : ∀ (j : Nat) t v, Try.f8.params[j]? = some t → args[j]? = some v → Value.okWide Try.prog W .any base t v := hval0
  have hW' := hW
  obtain ⟨p, q, hA0, hV, rfl, hfz, hnd⟩ := hW
  have hA : DataW.TrodAll enc Try.prog W 0 (fun _ => true) true Try.f8.params.toList args.toList ds p := hA0
  rw [Try.params8] at hA hval hsz
  obtain ⟨v0, vs0, d0, ds0, p0, q0, hargs, rfl, rfl, h0, r0⟩ := trodAll_cons hA
  obtain ⟨v1, vs1, d1, ds1, p1, q1, rfl, rfl, rfl, h1, r1⟩ := trodAll_cons r0
  obtain ⟨v2, vs2, d2, ds2, p2, q2, rfl, rfl, rfl, h2, r2⟩ := trodAll_cons r1
  obtain ⟨v3, vs3, d3, ds3, p3, q3, rfl, rfl, rfl, h3, r3⟩ := trodAll_cons r2
  obtain ⟨rfl, rfl, rfl⟩ := trodAll_nil r3
  obtain rfl : args = #[v0, v1, v2, v3] := by cases args; simp_all
  obtain ⟨rfl, rfl⟩ := trodVars_none hV
  obtain ⟨c0, rfl, -⟩ := okWide_struct Try.underlying25 (hval 0 25 v0 rfl rfl)
  have k0 := h0
  have lt0 : ∀ x ∈ p0, x.block < W.heap.size := by obtain ⟨m, hm⟩ := k0; exact DataW.trod_lt m _ _ _ hm
  obtain ⟨x0, hx0⟩ := opens_refHost.arg h0 hsz (j := 0) rfl rfl
  obtain ⟨a1, rfl, rfl, rfl, w1⟩ := open_int Try.underlying3 (hval 1 3 v1 rfl rfl) h1
  have i1 := bounds_i64 w1
  obtain ⟨a2, len2, cap2, rfl⟩ := okWide_slice Try.underlying26 (hval 2 26 v2 rfl rfl)
  have k2 := h2
  have lt2 : ∀ x ∈ p2, x.block < W.heap.size := by obtain ⟨m, hm⟩ := k2; exact DataW.trod_lt m _ _ _ hm
  obtain ⟨x2, hx2⟩ := opens_octets.arg h2 hsz (j := 2) rfl rfl
  obtain ⟨a3, len3, cap3, rfl⟩ := okWide_slice Try.underlying27 (hval 3 27 v3 rfl rfl)
  have k3 := h3
  have lt3 : ∀ x ∈ p3, x.block < W.heap.size := by obtain ⟨m, hm⟩ := k3; exact DataW.trod_lt m _ _ _ hm
  obtain ⟨x3, hx3⟩ := opens_bools.arg h3 hsz (j := 3) rfl rfl
  clear hA0 hval0
  refine (hown_walk c0.toList x0 a1 a2 len2 cap2 x2 a3 len3 cap3 x3 W hx0 (by omega) (by omega) hx2 hx3).mono fun e W' ⟨he, bel⟩ => ?_
  subst he
  exact ⟨_, rfl, _, _, _, [], _, [], hW', trodAll_mk1 (shut_bool Try.underlying4 _), (trodAll_cons_mk (Below.trod laidOut (by kernel_rfl) (of_decide_eq_true (by kernel_rfl)) k0 bel lt0) (trodAll_cons_mk (shut_int Try.underlying3 w1) (trodAll_cons_mk (Below.trod laidOut (by kernel_rfl) (of_decide_eq_true (by kernel_rfl)) k2 bel lt2) (trodAll_cons_mk (Below.trod laidOut (by kernel_rfl) (of_decide_eq_true (by kernel_rfl)) k3 bel lt3) trodAll_mk0)))), rfl, bel.frame _, fun h => by cases h⟩

theorem hostOwn_holds : Rows.HostOwnSaid :=
  OpenClaim.holds_of_wide 8 Try.f8 rfl rfl rfl rfl rfl rfl rfl ⟨rfl, rfl, rfl, rfl, rfl⟩ rfl rfl rfl rfl rfl (by kernel_rfl) Try.func8 (by kernel_rfl)
    (of_decide_eq_true (by kernel_rfl)) (by unfold Func.isWrapper; first | (rw [if_pos (by decide +kernel)]; kernel_rfl) | (rw [if_neg (by decide +kernel)]; exact ⟨rfl, rfl⟩))
    (fun os started H enc _ => hown_lifted os started H enc)

end Go.Proofs.Ytckcicomkapdeaa
