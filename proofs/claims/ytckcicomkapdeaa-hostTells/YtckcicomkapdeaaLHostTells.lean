/-
  What a write, a length, a barrier and a crash make of any host, what is read and how long it is, are the document's. Conditions: none.
-/
import Derived.Test.YtckcicomkapdeaaRAlive
import Derived.Test.YtckcicomkapdeaaROf
import Derived.Test.YtckcicomkapdeaaRFrame
import Derived.Test.YtckcicomkapdeaaRWrite
import Derived.Deep.RegionHeldLaw
import Derived.Test.YtckcicomkapdeaaRAlike
import Derived.Test.YtckcicomkapdeaaBSame
namespace Go.Proofs.Ytckcicomkapdeaa
open Go.ChangeShapes Go.WideShapes Go.ChangeAt Go.RowKit
set_option linter.unusedVariables false

set_option maxRecDepth 20000 in
set_option maxHeartbeats 32000000 in
theorem htells_walk (cs : List Value) (s : Host) (p : Int) (xa : Option Addr) (xn xc : Nat) (D : List UInt8) (q : Int) (ka : Option Addr) (kn kc : Nat) (K : List Bool) (W : World) (h0 : rHost.rd W (fun b => b < W.heap.size) cs s) (hp1 : -9223372036854775808 ≤ p) (hp2 : p ≤ 9223372036854775807) (h1 : rBytes.rd W (fun b => b < W.heap.size) [.slice xa xn xc] D) (hq1 : -9223372036854775808 ≤ q) (hq2 : q ≤ 9223372036854775807) (h2 : rBools.rd W (fun b => b < W.heap.size) [.slice ka kn kc] K) :
    Calls Try.prog 3 #[.agg cs.toArray, .int .i64 p, .slice xa xn xc, .int .i64 q, .slice ka kn kc] W fun e W' => e = .returned (.bool true) ∧ Below W.heap.size W W' := by
  have h0' := h0
  obtain ⟨a, n, c, b, m, d, rfl, -⟩ := rHost_cells h0'
  clear h0'
  have HD0 : Hid _ := rBytes.weaken h1 (P' := fun _ => True) (fun _ _ _ => trivial)
  have HS0 : Hid _ := rHost.weaken h0 (P' := fun _ => True) (fun _ _ _ => trivial)
  have HK0 : Hid _ := rBools.weaken h2 (P' := fun _ => True) (fun _ _ _ => trivial)
  clear h0 h1 h2
  have n1 : (Hst.writeE s p D != Hst.writeE s p D) = false := bne_self_eq_false _
  have n2 : (Hst.resizeE s q != Hst.resizeE s q) = false := bne_self_eq_false _
  have n3 : (Hst.checkE s != Hst.checkE s) = false := bne_self_eq_false _
  have n4 : (Hst.readE s p == Hst.readE s p) = true := beq_self_eq_true _
  have n5 : ((Hst.lengthN s : Int) == (Hst.lengthN s : Int)) = true := beq_self_eq_true _
  have n6 : (Hst.checkE s == Hst.checkE s) = true := beq_self_eq_true _
  obtain ⟨vs, hvs, -, -, -, bvs, zvs⟩ := boxed3 W 25 (.slice a n c) (.slice b m d) (.int .i64 s.2.2)
  have Vs : Hid (Var3 vs W.heap.size (.slice a n c) (.slice b m d) (.int .i64 s.2.2)) := by rw [← hvs]; exact var3_new _ _ _ _ _
  have HZs : Hid _ := zvs
  clear zvs
  go_enter Try.func3, Try.ntmps3
  have X1 : Hid _ := Vs.out
  have p10 := X1.out.c0
  have p11 := X1.out.c1
  have p12 := X1.out.c2
  go_wp2_with fail
  refine (of_u _ _ _ s (Rep.below HS0.out bvs)).mono ?_
  rintro e w1 ⟨cs1, rfl, hr1, b1⟩
  have hr1' := hr1
  obtain ⟨a1, n1, c1, d1, m1, e1, rfl, hA1, hW1, hn1, hm1, -⟩ := rHost_cells hr1'
  clear hr1'
  have HA1 : Hid _ := hA1
  clear hA1
  have HW1 : Hid _ := hW1
  clear hW1
  have HN1 : Hid _ := hn1
  clear hn1
  have HM1 : Hid _ := hm1
  clear hm1
  have HR1 : Hid _ := rHost.weaken hr1 (P' := fun _ => True) (fun _ _ _ => trivial)
  clear hr1
  go_wp2_with fail
  refine (copy_r _ _ xa xn xc _ (Rep.below HD0.out (on bvs b1))).mono ?_
  rintro e w2 ⟨a2, c2, rfl, hr2, b2⟩
  have HR2 : Hid _ := rBytes.weaken hr2 (P' := fun _ => True) (fun _ _ _ => trivial)
  clear hr2
  clear X1 p10 p11 p12
  obtain ⟨vo, hvo, -, -, -, bvo, zvo⟩ := boxed3 w2 30 (.slice a1 n1 c1) (.slice d1 m1 e1) (.int .i64 s.2.2)
  have Vo : Hid (Var3 vo w2.heap.size (.slice a1 n1 c1) (.slice d1 m1 e1) (.int .i64 s.2.2)) := by rw [← hvo]; exact var3_new _ _ _ _ _
  have HZo : Hid _ := zvo
  clear zvo
  have X2 : Hid _ := Vo.out
  have p20 := X2.out.c0
  have p21 := X2.out.c1
  have p22 := X2.out.c2
  go_wp2_with fail
  refine (write_u _ (fun _ => True) _ _ p a2 xn c2 D hp1 hp2 (Rep.below HR1.out (on b2 bvo)) (Rep.below HR2.out bvo)).mono ?_
  rintro e w3 ⟨cs3, rfl, hr3, b3⟩
  have hr3' := hr3
  obtain ⟨a3, n3, c3, d3, m3, e3, rfl, hA3, hW3, hn3, hm3, -⟩ := rHost_cells hr3'
  clear hr3'
  obtain ⟨v3, hv3, -, -, -, bv3, zv3⟩ := boxed3 w3 30 (.slice a3 n3 c3) (.slice d3 m3 e3) (.int .i64 (Hst.writeS s p D).2.2)
  have V3 : Hid (Var3 v3 w3.heap.size (.slice a3 n3 c3) (.slice d3 m3 e3) (.int .i64 (Hst.writeS s p D).2.2)) := by rw [← hv3]; exact var3_new _ _ _ _ _
  have HZ3 : Hid _ := zv3
  clear zv3
  have HA3 : Hid _ := hA3
  clear hA3
  have HW3 : Hid _ := hW3
  clear hW3
  have HN3 : Hid _ := hn3
  clear hn3
  have HM3 : Hid _ := hm3
  clear hm3
  have HR3 : Hid _ := rHost.weaken hr3 (P' := fun _ => True) (fun _ _ _ => trivial)
  clear hr3
  clear X2 p20 p21 p22
  have X3 : Hid _ := (Vs.out.below (on (on (on (on b1 b2) bvo) b3) bv3))
  have p30 := X3.out.c0
  have p31 := X3.out.c1
  have p32 := X3.out.c2
  go_wp2_with fail
  refine (refWrite_u _ (fun _ => True) _ _ p xa xn xc D hp1 hp2 (Rep.below HS0.out (on (on (on (on (on bvs b1) b2) bvo) b3) bv3)) (Rep.below HD0.out (on (on (on (on (on bvs b1) b2) bvo) b3) bv3))).mono ?_
  rintro e w4 ⟨cs4, rfl, hr4, b4⟩
  have hr4' := hr4
  obtain ⟨a4, n4, c4, d4, m4, e4, rfl, hA4, hW4, hn4, hm4, -⟩ := rHost_cells hr4'
  clear hr4'
  obtain ⟨v4, hv4, -, -, -, bv4, zv4⟩ := boxed3 w4 25 (.slice a4 n4 c4) (.slice d4 m4 e4) (.int .i64 (Hst.writeS s p D).2.2)
  have V4 : Hid (Var3 v4 w4.heap.size (.slice a4 n4 c4) (.slice d4 m4 e4) (.int .i64 (Hst.writeS s p D).2.2)) := by rw [← hv4]; exact var3_new _ _ _ _ _
  have HZ4 : Hid _ := zv4
  clear zv4
  have HA4 : Hid _ := hA4
  clear hA4
  have HW4 : Hid _ := hW4
  clear hW4
  have HN4 : Hid _ := hn4
  clear hn4
  have HM4 : Hid _ := hm4
  clear hm4
  have HR4 : Hid _ := rHost.weaken hr4 (P' := fun _ => True) (fun _ _ _ => trivial)
  clear hr4
  clear X3 p30 p31 p32
  have X4 : Hid _ := (Vo.out.below (on (on (on b3 bv3) b4) bv4))
  have p40 := X4.out.c0
  have p41 := X4.out.c1
  have p42 := X4.out.c2
  go_wp2_with fail
  refine (resize_u _ (fun _ => True) _ _ q hq1 hq2 (Rep.below HR1.out (on (on (on (on (on b2 bvo) b3) bv3) b4) bv4))).mono ?_
  rintro e w5 ⟨cs5, rfl, hr5, b5⟩
  have hr5' := hr5
  obtain ⟨a5, n5, c5, d5, m5, e5, rfl, hA5, hW5, hn5, hm5, -⟩ := rHost_cells hr5'
  clear hr5'
  obtain ⟨v5, hv5, -, -, -, bv5, zv5⟩ := boxed3 w5 30 (.slice a5 n5 c5) (.slice d5 m5 e5) (.int .i64 (Hst.resizeS s q).2.2)
  have V5 : Hid (Var3 v5 w5.heap.size (.slice a5 n5 c5) (.slice d5 m5 e5) (.int .i64 (Hst.resizeS s q).2.2)) := by rw [← hv5]; exact var3_new _ _ _ _ _
  have HZ5 : Hid _ := zv5
  clear zv5
  have HA5 : Hid _ := hA5
  clear hA5
  have HW5 : Hid _ := hW5
  clear hW5
  have HN5 : Hid _ := hn5
  clear hn5
  have HM5 : Hid _ := hm5
  clear hm5
  have HR5 : Hid _ := rHost.weaken hr5 (P' := fun _ => True) (fun _ _ _ => trivial)
  clear hr5
  clear X4 p40 p41 p42
  have X5 : Hid _ := (Vs.out.below (on (on (on (on (on (on (on (on b1 b2) bvo) b3) bv3) b4) bv4) b5) bv5))
  have p50 := X5.out.c0
  have p51 := X5.out.c1
  have p52 := X5.out.c2
  go_wp2_with fail
  refine (refResize_u _ (fun _ => True) _ _ q hq1 hq2 (Rep.below HS0.out (on (on (on (on (on (on (on (on (on bvs b1) b2) bvo) b3) bv3) b4) bv4) b5) bv5))).mono ?_
  rintro e w6 ⟨cs6, rfl, hr6, b6⟩
  have hr6' := hr6
  obtain ⟨a6, n6, c6, d6, m6, e6, rfl, hA6, hW6, hn6, hm6, -⟩ := rHost_cells hr6'
  clear hr6'
  obtain ⟨v6, hv6, -, -, -, bv6, zv6⟩ := boxed3 w6 25 (.slice a6 n6 c6) (.slice d6 m6 e6) (.int .i64 (Hst.resizeS s q).2.2)
  have V6 : Hid (Var3 v6 w6.heap.size (.slice a6 n6 c6) (.slice d6 m6 e6) (.int .i64 (Hst.resizeS s q).2.2)) := by rw [← hv6]; exact var3_new _ _ _ _ _
  have HZ6 : Hid _ := zv6
  clear zv6
  have HA6 : Hid _ := hA6
  clear hA6
  have HW6 : Hid _ := hW6
  clear hW6
  have HN6 : Hid _ := hn6
  clear hn6
  have HM6 : Hid _ := hm6
  clear hm6
  have HR6 : Hid _ := rHost.weaken hr6 (P' := fun _ => True) (fun _ _ _ => trivial)
  clear hr6
  clear X5 p50 p51 p52
  have X6 : Hid _ := (Vo.out.below (on (on (on (on (on (on (on b3 bv3) b4) bv4) b5) bv5) b6) bv6))
  have p60 := X6.out.c0
  have p61 := X6.out.c1
  have p62 := X6.out.c2
  go_wp2_with fail
  refine (flush_u _ (fun _ => True) _ _ (Rep.below HR1.out (on (on (on (on (on (on (on (on (on b2 bvo) b3) bv3) b4) bv4) b5) bv5) b6) bv6))).mono ?_
  rintro e w7 ⟨cs7, rfl, hr7, b7⟩
  have hr7' := hr7
  obtain ⟨a7, n7, c7, d7, m7, e7, rfl, hA7, hW7, hn7, hm7, -⟩ := rHost_cells hr7'
  clear hr7'
  obtain ⟨v7, hv7, -, -, -, bv7, zv7⟩ := boxed3 w7 30 (.slice a7 n7 c7) (.slice d7 m7 e7) (.int .i64 (Hst.flushS s).2.2)
  have V7 : Hid (Var3 v7 w7.heap.size (.slice a7 n7 c7) (.slice d7 m7 e7) (.int .i64 (Hst.flushS s).2.2)) := by rw [← hv7]; exact var3_new _ _ _ _ _
  have HZ7 : Hid _ := zv7
  clear zv7
  have HA7 : Hid _ := hA7
  clear hA7
  have HW7 : Hid _ := hW7
  clear hW7
  have HN7 : Hid _ := hn7
  clear hn7
  have HM7 : Hid _ := hm7
  clear hm7
  have HR7 : Hid _ := rHost.weaken hr7 (P' := fun _ => True) (fun _ _ _ => trivial)
  clear hr7
  clear X6 p60 p61 p62
  have X7 : Hid _ := (Vs.out.below (on (on (on (on (on (on (on (on (on (on (on (on b1 b2) bvo) b3) bv3) b4) bv4) b5) bv5) b6) bv6) b7) bv7))
  have p70 := X7.out.c0
  have p71 := X7.out.c1
  have p72 := X7.out.c2
  go_wp2_with fail
  refine (refFlush_u _ (fun _ => True) _ _ (Rep.below HS0.out (on (on (on (on (on (on (on (on (on (on (on (on (on bvs b1) b2) bvo) b3) bv3) b4) bv4) b5) bv5) b6) bv6) b7) bv7))).mono ?_
  rintro e w8 ⟨cs8, rfl, hr8, b8⟩
  have hr8' := hr8
  obtain ⟨a8, n8, c8, d8, m8, e8, rfl, hA8, hW8, hn8, hm8, -⟩ := rHost_cells hr8'
  clear hr8'
  obtain ⟨v8, hv8, -, -, -, bv8, zv8⟩ := boxed3 w8 25 (.slice a8 n8 c8) (.slice d8 m8 e8) (.int .i64 (Hst.flushS s).2.2)
  have V8 : Hid (Var3 v8 w8.heap.size (.slice a8 n8 c8) (.slice d8 m8 e8) (.int .i64 (Hst.flushS s).2.2)) := by rw [← hv8]; exact var3_new _ _ _ _ _
  have HZ8 : Hid _ := zv8
  clear zv8
  have HA8 : Hid _ := hA8
  clear hA8
  have HW8 : Hid _ := hW8
  clear hW8
  have HN8 : Hid _ := hn8
  clear hn8
  have HM8 : Hid _ := hm8
  clear hm8
  have HR8 : Hid _ := rHost.weaken hr8 (P' := fun _ => True) (fun _ _ _ => trivial)
  clear hr8
  clear X7 p70 p71 p72
  have X8 : Hid _ := (Vo.out.below (on (on (on (on (on (on (on (on (on (on (on b3 bv3) b4) bv4) b5) bv5) b6) bv6) b7) bv7) b8) bv8))
  have p80 := X8.out.c0
  have p81 := X8.out.c1
  have p82 := X8.out.c2
  go_wp2_with fail
  refine (crash_u _ (fun _ => True) _ _ ka kn kc K (Rep.below HR1.out (on (on (on (on (on (on (on (on (on (on (on (on (on b2 bvo) b3) bv3) b4) bv4) b5) bv5) b6) bv6) b7) bv7) b8) bv8)) (Rep.below HK0.out (on (on (on (on (on (on (on (on (on (on (on (on (on (on (on bvs b1) b2) bvo) b3) bv3) b4) bv4) b5) bv5) b6) bv6) b7) bv7) b8) bv8))).mono ?_
  rintro e w9 ⟨cs9, rfl, hr9, b9⟩
  have hr9' := hr9
  obtain ⟨a9, n9, c9, d9, m9, e9, rfl, hA9, hW9, hn9, hm9, -⟩ := rHost_cells hr9'
  clear hr9'
  obtain ⟨v9, hv9, -, -, -, bv9, zv9⟩ := boxed3 w9 30 (.slice a9 n9 c9) (.slice d9 m9 e9) (.int .i64 (Hst.crashS s K).2.2)
  have V9 : Hid (Var3 v9 w9.heap.size (.slice a9 n9 c9) (.slice d9 m9 e9) (.int .i64 (Hst.crashS s K).2.2)) := by rw [← hv9]; exact var3_new _ _ _ _ _
  have HZ9 : Hid _ := zv9
  clear zv9
  have HA9 : Hid _ := hA9
  clear hA9
  have HW9 : Hid _ := hW9
  clear hW9
  have HN9 : Hid _ := hn9
  clear hn9
  have HM9 : Hid _ := hm9
  clear hm9
  have HR9 : Hid _ := rHost.weaken hr9 (P' := fun _ => True) (fun _ _ _ => trivial)
  clear hr9
  clear X8 p80 p81 p82
  have X9 : Hid _ := (Vs.out.below (on (on (on (on (on (on (on (on (on (on (on (on (on (on (on (on b1 b2) bvo) b3) bv3) b4) bv4) b5) bv5) b6) bv6) b7) bv7) b8) bv8) b9) bv9))
  have p90 := X9.out.c0
  have p91 := X9.out.c1
  have p92 := X9.out.c2
  go_wp2_with fail
  refine (refCrash_u _ (fun _ => True) _ _ ka kn kc K (Rep.below HS0.out (on (on (on (on (on (on (on (on (on (on (on (on (on (on (on (on (on bvs b1) b2) bvo) b3) bv3) b4) bv4) b5) bv5) b6) bv6) b7) bv7) b8) bv8) b9) bv9)) (Rep.below HK0.out (on (on (on (on (on (on (on (on (on (on (on (on (on (on (on (on (on bvs b1) b2) bvo) b3) bv3) b4) bv4) b5) bv5) b6) bv6) b7) bv7) b8) bv8) b9) bv9))).mono ?_
  rintro e w10 ⟨cs10, rfl, hr10, b10⟩
  have hr10' := hr10
  obtain ⟨a10, n10, c10, d10, m10, e10, rfl, hA10, hW10, hn10, hm10, -⟩ := rHost_cells hr10'
  clear hr10'
  obtain ⟨v10, hv10, -, -, -, bv10, zv10⟩ := boxed3 w10 25 (.slice a10 n10 c10) (.slice d10 m10 e10) (.int .i64 (Hst.crashS s K).2.2)
  have V10 : Hid (Var3 v10 w10.heap.size (.slice a10 n10 c10) (.slice d10 m10 e10) (.int .i64 (Hst.crashS s K).2.2)) := by rw [← hv10]; exact var3_new _ _ _ _ _
  have HZ10 : Hid _ := zv10
  clear zv10
  have HA10 : Hid _ := hA10
  clear hA10
  have HW10 : Hid _ := hW10
  clear hW10
  have HN10 : Hid _ := hn10
  clear hn10
  have HM10 : Hid _ := hm10
  clear hm10
  have HR10 : Hid _ := rHost.weaken hr10 (P' := fun _ => True) (fun _ _ _ => trivial)
  clear hr10
  clear X9 p90 p91 p92
  have X10 : Hid _ := (Vo.out.below (on (on (on (on (on (on (on (on (on (on (on (on (on (on (on b3 bv3) b4) bv4) b5) bv5) b6) bv6) b7) bv7) b8) bv8) b9) bv9) b10) bv10))
  have p100 := X10.out.c0
  have p101 := X10.out.c1
  have p102 := X10.out.c2
  go_wp2_with fail
  refine (read_u _ (fun _ => True) _ _ p (Rep.below HR1.out (on (on (on (on (on (on (on (on (on (on (on (on (on (on (on (on (on b2 bvo) b3) bv3) b4) bv4) b5) bv5) b6) bv6) b7) bv7) b8) bv8) b9) bv9) b10) bv10))).mono ?_
  rintro e w11 ⟨a11, n11, c11, rfl, hr11, b11⟩
  have HR11 : Hid _ := hr11
  clear hr11
  clear X10 p100 p101 p102
  have X11 : Hid _ := (Vs.out.below (on (on (on (on (on (on (on (on (on (on (on (on (on (on (on (on (on (on (on b1 b2) bvo) b3) bv3) b4) bv4) b5) bv5) b6) bv6) b7) bv7) b8) bv8) b9) bv9) b10) bv10) b11))
  have p110 := X11.out.c0
  have p111 := X11.out.c1
  have p112 := X11.out.c2
  go_wp2_with fail
  refine (refRead_u _ (fun _ => True) _ _ p (Rep.below HS0.out (on (on (on (on (on (on (on (on (on (on (on (on (on (on (on (on (on (on (on (on bvs b1) b2) bvo) b3) bv3) b4) bv4) b5) bv5) b6) bv6) b7) bv7) b8) bv8) b9) bv9) b10) bv10) b11))).mono ?_
  rintro e w12 ⟨a12, n12, c12, rfl, hr12, b12⟩
  have HR12 : Hid _ := hr12
  clear hr12
  clear X11 p110 p111 p112
  have X12 : Hid _ := (Vo.out.below (on (on (on (on (on (on (on (on (on (on (on (on (on (on (on (on (on b3 bv3) b4) bv4) b5) bv5) b6) bv6) b7) bv7) b8) bv8) b9) bv9) b10) bv10) b11) b12))
  have p120 := X12.out.c0
  have p121 := X12.out.c1
  have p122 := X12.out.c2
  go_wp2_with fail
  refine (length_u _ (fun _ => True) _ _ (Rep.below HR1.out (on (on (on (on (on (on (on (on (on (on (on (on (on (on (on (on (on (on (on b2 bvo) b3) bv3) b4) bv4) b5) bv5) b6) bv6) b7) bv7) b8) bv8) b9) bv9) b10) bv10) b11) b12))).mono ?_
  rintro e w13 ⟨rfl, b13⟩
  clear X12 p120 p121 p122
  have X13 : Hid _ := (Vs.out.below (on (on (on (on (on (on (on (on (on (on (on (on (on (on (on (on (on (on (on (on (on b1 b2) bvo) b3) bv3) b4) bv4) b5) bv5) b6) bv6) b7) bv7) b8) bv8) b9) bv9) b10) bv10) b11) b12) b13))
  have p130 := X13.out.c0
  have p131 := X13.out.c1
  have p132 := X13.out.c2
  go_wp2_with fail
  refine (refLength_u _ (fun _ => True) _ _ (Rep.below HS0.out (on (on (on (on (on (on (on (on (on (on (on (on (on (on (on (on (on (on (on (on (on (on bvs b1) b2) bvo) b3) bv3) b4) bv4) b5) bv5) b6) bv6) b7) bv7) b8) bv8) b9) bv9) b10) bv10) b11) b12) b13))).mono ?_
  rintro e w14 ⟨rfl, b14⟩
  clear X13 p130 p131 p132
  have X14 : Hid _ := (V3.out.below (on (on (on (on (on (on (on (on (on (on (on (on (on (on (on (on (on b4 bv4) b5) bv5) b6) bv6) b7) bv7) b8) bv8) b9) bv9) b10) bv10) b11) b12) b13) b14))
  have p140 := X14.out.c0
  have p141 := X14.out.c1
  have p142 := X14.out.c2
  have X15 : Hid _ := (V4.out.below (on (on (on (on (on (on (on (on (on (on (on (on (on (on (on b5 bv5) b6) bv6) b7) bv7) b8) bv8) b9) bv9) b10) bv10) b11) b12) b13) b14))
  have p150 := X15.out.c0
  have p151 := X15.out.c1
  have p152 := X15.out.c2
  go_wp2_with fail
  refine (alike_u _ (fun _ => True) (fun _ => True) _ _ _ (Rep.below HR3.out (on (on (on (on (on (on (on (on (on (on (on (on (on (on (on (on (on (on bv3 b4) bv4) b5) bv5) b6) bv6) b7) bv7) b8) bv8) b9) bv9) b10) bv10) b11) b12) b13) b14)) (Rep.below HR4.out (on (on (on (on (on (on (on (on (on (on (on (on (on (on (on (on bv4 b5) bv5) b6) bv6) b7) bv7) b8) bv8) b9) bv9) b10) bv10) b11) b12) b13) b14))).mono ?_
  rintro e w15 ⟨rfl, b15⟩
  clear X14 p140 p141 p142
  clear X15 p150 p151 p152
  go_wp2_with fail
  refine (num_u _ _).mono ?_
  rintro e w99 ⟨rfl, rfl⟩
  have X16 : Hid _ := (V5.out.below (on (on (on (on (on (on (on (on (on (on (on (on (on (on b6 bv6) b7) bv7) b8) bv8) b9) bv9) b10) bv10) b11) b12) b13) b14) b15))
  have p160 := X16.out.c0
  have p161 := X16.out.c1
  have p162 := X16.out.c2
  have X17 : Hid _ := (V6.out.below (on (on (on (on (on (on (on (on (on (on (on (on b7 bv7) b8) bv8) b9) bv9) b10) bv10) b11) b12) b13) b14) b15))
  have p170 := X17.out.c0
  have p171 := X17.out.c1
  have p172 := X17.out.c2
  go_wp2_with fail
  refine (alike_u _ (fun _ => True) (fun _ => True) _ _ _ (Rep.below HR5.out (on (on (on (on (on (on (on (on (on (on (on (on (on (on (on bv5 b6) bv6) b7) bv7) b8) bv8) b9) bv9) b10) bv10) b11) b12) b13) b14) b15)) (Rep.below HR6.out (on (on (on (on (on (on (on (on (on (on (on (on (on bv6 b7) bv7) b8) bv8) b9) bv9) b10) bv10) b11) b12) b13) b14) b15))).mono ?_
  rintro e w16 ⟨rfl, b16⟩
  clear X16 p160 p161 p162
  clear X17 p170 p171 p172
  go_wp2_with fail
  refine (num_u _ _).mono ?_
  rintro e w99 ⟨rfl, rfl⟩
  have X18 : Hid _ := (V7.out.below (on (on (on (on (on (on (on (on (on (on (on b8 bv8) b9) bv9) b10) bv10) b11) b12) b13) b14) b15) b16))
  have p180 := X18.out.c0
  have p181 := X18.out.c1
  have p182 := X18.out.c2
  have X19 : Hid _ := (V8.out.below (on (on (on (on (on (on (on (on (on b9 bv9) b10) bv10) b11) b12) b13) b14) b15) b16))
  have p190 := X19.out.c0
  have p191 := X19.out.c1
  have p192 := X19.out.c2
  go_wp2_with fail
  refine (alike_u _ (fun _ => True) (fun _ => True) _ _ _ (Rep.below HR7.out (on (on (on (on (on (on (on (on (on (on (on (on bv7 b8) bv8) b9) bv9) b10) bv10) b11) b12) b13) b14) b15) b16)) (Rep.below HR8.out (on (on (on (on (on (on (on (on (on (on bv8 b9) bv9) b10) bv10) b11) b12) b13) b14) b15) b16))).mono ?_
  rintro e w17 ⟨rfl, b17⟩
  clear X18 p180 p181 p182
  clear X19 p190 p191 p192
  go_wp2_with fail
  refine (num_u _ _).mono ?_
  rintro e w99 ⟨rfl, rfl⟩
  have X20 : Hid _ := (V9.out.below (on (on (on (on (on (on (on (on b10 bv10) b11) b12) b13) b14) b15) b16) b17))
  have p200 := X20.out.c0
  have p201 := X20.out.c1
  have p202 := X20.out.c2
  have X21 : Hid _ := (V10.out.below (on (on (on (on (on (on b11 b12) b13) b14) b15) b16) b17))
  have p210 := X21.out.c0
  have p211 := X21.out.c1
  have p212 := X21.out.c2
  go_wp2_with fail
  refine (alike_u _ (fun _ => True) (fun _ => True) _ _ _ (Rep.below HR9.out (on (on (on (on (on (on (on (on (on bv9 b10) bv10) b11) b12) b13) b14) b15) b16) b17)) (Rep.below HR10.out (on (on (on (on (on (on (on bv10 b11) b12) b13) b14) b15) b16) b17))).mono ?_
  rintro e w18 ⟨rfl, b18⟩
  clear X20 p200 p201 p202
  clear X21 p210 p211 p212
  go_wp2_with fail
  refine (num_u _ _).mono ?_
  rintro e w99 ⟨rfl, rfl⟩
  have X22 : Hid _ := (Vo.out.below (on (on (on (on (on (on (on (on (on (on (on (on (on (on (on (on (on (on (on (on (on (on (on b3 bv3) b4) bv4) b5) bv5) b6) bv6) b7) bv7) b8) bv8) b9) bv9) b10) bv10) b11) b12) b13) b14) b15) b16) b17) b18))
  have p220 := X22.out.c0
  have p221 := X22.out.c1
  have p222 := X22.out.c2
  have X23 : Hid _ := (Vs.out.below (on (on (on (on (on (on (on (on (on (on (on (on (on (on (on (on (on (on (on (on (on (on (on (on (on (on b1 b2) bvo) b3) bv3) b4) bv4) b5) bv5) b6) bv6) b7) bv7) b8) bv8) b9) bv9) b10) bv10) b11) b12) b13) b14) b15) b16) b17) b18))
  have p230 := X23.out.c0
  have p231 := X23.out.c1
  have p232 := X23.out.c2
  go_wp2_with fail
  have HB11 : Hid (IsB w18.drew a11 n11 (Hst.readL s p)) := (rBytes_isB (Rep.below HR11.out (on (on (on (on (on (on b12 b13) b14) b15) b16) b17) b18))).1
  have HB12 : Hid (IsB w18.drew a12 n12 (Hst.readL s p)) := (rBytes_isB (Rep.below HR12.out (on (on (on (on (on b13 b14) b15) b16) b17) b18))).1
  have HOD : Hid (rHost.rd w18.drew (fun _ => True) [.slice a1 n1 c1, .slice d1 m1 e1, .int .i64 s.2.2] s) := by have h := (Rep.below HR1.out (on (on (on (on (on (on (on (on (on (on (on (on (on (on (on (on (on (on (on (on (on (on (on (on (on b2 bvo) b3) bv3) b4) bv4) b5) bv5) b6) bv6) b7) bv7) b8) bv8) b9) bv9) b10) bv10) b11) b12) b13) b14) b15) b16) b17) b18)); exact h
  have HSD : Hid (rHost.rd w18 (fun _ => True) [.slice a n c, .slice b m d, .int .i64 s.2.2] s) := (Rep.below HS0.out (on (on (on (on (on (on (on (on (on (on (on (on (on (on (on (on (on (on (on (on (on (on (on (on (on (on (on bvs b1) b2) bvo) b3) bv3) b4) bv4) b5) bv5) b6) bv6) b7) bv7) b8) bv8) b9) bv9) b10) bv10) b11) b12) b13) b14) b15) b16) b17) b18))
  have HOD' : Hid (rHost.rd w18 (fun _ => True) [.slice a1 n1 c1, .slice d1 m1 e1, .int .i64 s.2.2] s) := (Rep.below HR1.out (on (on (on (on (on (on (on (on (on (on (on (on (on (on (on (on (on (on (on (on (on (on (on (on (on b2 bvo) b3) bv3) b4) bv4) b5) bv5) b6) bv6) b7) bv7) b8) bv8) b9) bv9) b10) bv10) b11) b12) b13) b14) b15) b16) b17) b18))
  have BALL : Hid (Below W.heap.size W w18) := (on (on (on (on (on (on (on (on (on (on (on (on (on (on (on (on (on (on (on (on (on (on (on (on (on (on (on bvs b1) b2) bvo) b3) bv3) b4) bv4) b5) bv5) b6) bv6) b7) bv7) b8) bv8) b9) bv9) b10) bv10) b11) b12) b13) b14) b15) b16) b17) b18)
  have S0 : w18.drew.cell? ⟨w2.heap.size, 0, none⟩ = some (.slice a1 n1 c1) ∧ w18.drew.cell? ⟨w2.heap.size, 1, none⟩ = some (.slice d1 m1 e1) ∧ w18.drew.cell? ⟨w2.heap.size, 2, none⟩ = some (.int .i64 s.2.2) ∧ w18.drew.cell? ⟨W.heap.size, 0, none⟩ = some (.slice a n c) ∧ w18.drew.cell? ⟨W.heap.size, 1, none⟩ = some (.slice b m d) ∧ w18.drew.cell? ⟨W.heap.size, 2, none⟩ = some (.int .i64 s.2.2) := ⟨X22.out.c0, X22.out.c1, X22.out.c2, X23.out.c0, X23.out.c1, X23.out.c2⟩
  go_region_held_law (fun w' : World => w'.cell? ⟨w2.heap.size, 0, none⟩ = some (.slice a1 n1 c1) ∧ w'.cell? ⟨w2.heap.size, 1, none⟩ = some (.slice d1 m1 e1) ∧ w'.cell? ⟨w2.heap.size, 2, none⟩ = some (.int .i64 s.2.2) ∧ w'.cell? ⟨W.heap.size, 0, none⟩ = some (.slice a n c) ∧ w'.cell? ⟨W.heap.size, 1, none⟩ = some (.slice b m d) ∧ w'.cell? ⟨W.heap.size, 2, none⟩ = some (.int .i64 s.2.2))
    (first | exact S0 | exact S1 | exact S2 | exact S3 | exact S4 | assumption)
    (first
    | (go_simp; go_at_call 25; refine (sameBytes_any _ a11 a12 n11 c11 n12 c12 _ _ HB11.out HB12.out).mono ?_; rintro e w98 ⟨rfl, rfl⟩; rw [beq_self_eq_true]; go_simp)
    | (go_simp; go_at_call 24; refine (num_u _ _).mono ?_; rintro e w97 ⟨rfl, rfl⟩; go_simp)
    | (go_simp; go_at_call 26; refine (check_u _ _ _ _ HOD.out).mono ?_; rintro e wa ⟨rfl, bda⟩; have ba := same_drew bda; clear bda; have XO : Hid _ := X22.out.below ba; have XS : Hid _ := X23.out.below ba; have S1 := And.intro XO.out.c0 (And.intro XO.out.c1 (And.intro XO.out.c2 (And.intro XS.out.c0 (And.intro XS.out.c1 XS.out.c2)))); go_simp)
    | (go_simp; go_at_call 27; refine (refCheck_u _ _ _ _ (Rep.below HSD.out ba)).mono ?_; rintro e wb ⟨rfl, bb⟩; have XO2 : Hid _ := XO.out.below bb; have XS2 : Hid _ := XS.out.below bb; have S2 := And.intro XO2.out.c0 (And.intro XO2.out.c1 (And.intro XO2.out.c2 (And.intro XS2.out.c0 (And.intro XS2.out.c1 XS2.out.c2)))); go_simp)
    | (go_simp; go_at_call 23; refine (alike_u _ _ _ _ _ _ (Rep.below HOD'.out (on ba bb)) (Rep.below HSD.out (on ba bb))).mono ?_; rintro e wc ⟨rfl, bc⟩; have XO3 : Hid _ := XO2.out.below bc; have XS3 : Hid _ := XS2.out.below bc; have S3 := And.intro XO3.out.c0 (And.intro XO3.out.c1 (And.intro XO3.out.c2 (And.intro XS3.out.c0 (And.intro XS3.out.c1 XS3.out.c2)))); go_simp)
    | (go_simp; go_at_call 28; refine (alive_u _).mono ?_; rintro e wd ⟨rfl, bd⟩; have XO4 : Hid _ := XO3.out.below bd; have XS4 : Hid _ := XS3.out.below bd; have S4 := And.intro XO4.out.c0 (And.intro XO4.out.c1 (And.intro XO4.out.c2 (And.intro XS4.out.c0 (And.intro XS4.out.c1 XS4.out.c2)))); go_simp))
  all_goals go_wp2
  all_goals go_ret
  all_goals exact ⟨rfl, on (on (on (on BALL.out ba) bb) bc) bd⟩

set_option maxRecDepth 100000 in
theorem htells_lifted (os : Os) (started : os.Started) (H : Type) (enc : TypeId × Value → H) :
    ReturnsInHanded {} Try.checked os 3 .any (Rows.hostTellsSpec.pre6 enc Try.prog Try.f3 Rows.hostTellsRow.domain false) (Rows.hostTellsSpec.post enc Try.prog Try.f3 false true false false) := by
  refine returnsInHanded_of_change_sized (C := Try.checked) own started (by kernel_rfl) Try.func3
    (ChangeSpec.witness6 (enc := enc) (C := Try.checked) false ⟨#[], #[.agg #[.slice none 0 0, .slice none 0 0, .int .i64 0], .int .i64 0, .slice none 0 0, .int .i64 0, .slice none 0 0], []⟩ 8 (by kernel_rfl) (by kernel_rfl) (by kernel_rfl) (by kernel_rfl)) ?_
  intro W base args ds gs before hval0 hW _ hsz0 _
  have hsz : (DataW.weightsEach Try.prog (Try.f3.params.toList ++ Rows.hostTellsSpec.plain.varTypes Try.prog) (ds ++ gs)).all (· ≤ reachBytes) = true := hsz0
  clear hsz0
  have hval : ∀ (j : Nat) t v, Try.f3.params[j]? = some t → args[j]? = some v → Value.okWide Try.prog W .any base t v := hval0
  have hW' := hW
  obtain ⟨p, q, hA0, hV, rfl, hfz, hnd⟩ := hW
  have hA : DataW.TrodAll enc Try.prog W 0 (fun _ => true) true Try.f3.params.toList args.toList ds p := hA0
  rw [Try.params3] at hA hval hsz
  obtain ⟨v0, vs0, d0, ds0, p0, q0, hargs, rfl, rfl, h0, r0⟩ := trodAll_cons hA
  obtain ⟨v1, vs1, d1, ds1, p1, q1, rfl, rfl, rfl, h1, r1⟩ := trodAll_cons r0
  obtain ⟨v2, vs2, d2, ds2, p2, q2, rfl, rfl, rfl, h2, r2⟩ := trodAll_cons r1
  obtain ⟨v3, vs3, d3, ds3, p3, q3, rfl, rfl, rfl, h3, r3⟩ := trodAll_cons r2
  obtain ⟨v4, vs4, d4, ds4, p4, q4, rfl, rfl, rfl, h4, r4⟩ := trodAll_cons r3
  obtain ⟨rfl, rfl, rfl⟩ := trodAll_nil r4
  obtain rfl : args = #[v0, v1, v2, v3, v4] := by cases args; simp_all
  obtain ⟨rfl, rfl⟩ := trodVars_none hV
  obtain ⟨c0, rfl, -⟩ := okWide_struct Try.underlying25 (hval 0 25 v0 rfl rfl)
  have k0 := h0
  have lt0 : ∀ x ∈ p0, x.block < W.heap.size := by obtain ⟨m, hm⟩ := k0; exact DataW.trod_lt m _ _ _ hm
  obtain ⟨x0, hx0⟩ := opens_refHost.arg h0 hsz (j := 0) rfl rfl
  obtain ⟨a1, rfl, rfl, rfl, w1⟩ := open_int Try.underlying3 (hval 1 3 v1 rfl rfl) h1
  have i1 := bounds_i64 w1
  obtain ⟨a2, len2, cap2, rfl⟩ := okWide_slice Try.underlying26 (hval 2 26 v2 rfl rfl)
  have k2 := h2
  have lt2 : ∀ x ∈ p2, x.block < W.heap.size := by obtain ⟨m, hm⟩ := k2; exact DataW.trod_lt m _ _ _ hm
  obtain ⟨x2, hx2⟩ := opens_octets.arg h2 hsz (j := 2) rfl rfl
  obtain ⟨a3, rfl, rfl, rfl, w3⟩ := open_int Try.underlying3 (hval 3 3 v3 rfl rfl) h3
  have i3 := bounds_i64 w3
  obtain ⟨a4, len4, cap4, rfl⟩ := okWide_slice Try.underlying27 (hval 4 27 v4 rfl rfl)
  have k4 := h4
  have lt4 : ∀ x ∈ p4, x.block < W.heap.size := by obtain ⟨m, hm⟩ := k4; exact DataW.trod_lt m _ _ _ hm
  obtain ⟨x4, hx4⟩ := opens_bools.arg h4 hsz (j := 4) rfl rfl
  clear hA0 hval0
  refine (htells_walk c0.toList x0 a1 a2 len2 cap2 x2 a3 a4 len4 cap4 x4 W hx0 (by omega) (by omega) hx2 (by omega) (by omega) hx4).mono fun e W' ⟨he, bel⟩ => ?_
  subst he
  exact ⟨_, rfl, _, _, _, [], _, [], hW', trodAll_mk1 (shut_bool Try.underlying4 _), (trodAll_cons_mk (Below.trod laidOut (by kernel_rfl) (of_decide_eq_true (by kernel_rfl)) k0 bel lt0) (trodAll_cons_mk (shut_int Try.underlying3 w1) (trodAll_cons_mk (Below.trod laidOut (by kernel_rfl) (of_decide_eq_true (by kernel_rfl)) k2 bel lt2) (trodAll_cons_mk (shut_int Try.underlying3 w3) (trodAll_cons_mk (Below.trod laidOut (by kernel_rfl) (of_decide_eq_true (by kernel_rfl)) k4 bel lt4) trodAll_mk0))))), rfl, bel.frame _, fun h => by cases h⟩

theorem hostTells_holds : Rows.HostTellsSaid :=
  OpenClaim.holds_of_wide 3 Try.f3 rfl rfl rfl rfl rfl rfl rfl ⟨rfl, rfl, rfl, rfl, rfl⟩ rfl rfl rfl rfl rfl (by kernel_rfl) Try.func3 (by kernel_rfl)
    (of_decide_eq_true (by kernel_rfl)) (by unfold Func.isWrapper; first | (rw [if_pos (by decide +kernel)]; kernel_rfl) | (rw [if_neg (by decide +kernel)]; exact ⟨rfl, rfl⟩))
    (fun os started H enc _ => htells_lifted os started H enc)

end Go.Proofs.Ytckcicomkapdeaa
