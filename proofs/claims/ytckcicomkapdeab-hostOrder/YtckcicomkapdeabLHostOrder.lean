/-
  Of two writes to one sector the later one counts, if it is kept; else the elder one, if that is. Conditions: none.
-/
import Derived.Test.YtckcicomkapdeabRAlive
import Derived.Test.YtckcicomkapdeabROf
import Derived.Test.YtckcicomkapdeabRFrame
import Derived.Test.YtckcicomkapdeabHPlain2
import Derived.Test.YtckcicomkapdeabBSame
namespace Go.Proofs.Ytckcicomkapdeab
open Go.ChangeShapes Go.WideShapes Go.ChangeAt Go.RowKit
set_option linter.unusedVariables false

theorem Hst.order_at {x : Host} {t : Nat} {A B : List UInt8} {f1 f2 : Bool} (hx : x.2.1 = []) (h2 : Hst.writeE x t A = 0) (h3 : Hst.writeE (Hst.writeS x t A) t B = 0) :
    (Hst.crashS (Hst.writeS (Hst.writeS x t A) t B) [f1, f2]).1.length = x.1.length ∧ t < x.1.length ∧ (Hst.crashS (Hst.writeS (Hst.writeS x t A) t B) [f1, f2]).1[t]? = some (if f2 then B else if f1 then A else x.1.getD t []) := by
  have hok := Hst.ok_write h3
  have e1 : Hst.writeS x t A = (x.1, [(1, (t : Int), A)], x.2.2) := by unfold Hst.writeS; rw [if_pos h2, hx]; rfl
  have e2 : Hst.writeS (Hst.writeS x t A) t B = (x.1, [(1, (t : Int), A), (1, (t : Int), B)], x.2.2) := by unfold Hst.writeS; rw [if_pos (by rw [show (if Hst.writeE x t A = 0 then (x.1, x.2.1 ++ [(1, (t : Int), A)], x.2.2) else Hst.none) = Hst.writeS x t A from rfl]; exact h3), if_pos h2, hx]; rfl
  have hlt : t < x.1.length := by
    obtain ⟨h0, g1, g2, -⟩ := Hst.writeE_zero.1 h2
    rw [Hst.lengthN_ok h0, hx] at g2
    simp only [Hst.doneAll] at g2
    omega
  rw [Hst.crash_ok _ hok, e2]
  simp only [Hst.doneAll, Hst.those, Hst.done, List.getD_cons_zero, List.getD_cons_succ, if_true]
  refine ⟨?_, hlt, ?_⟩
  · cases f1 <;> cases f2 <;> simp [hlt]
  · cases f1 <;> cases f2 <;> simp [hlt]

theorem Hst.write_none (p : Int) (D : List UInt8) {s : Host} (h : Hst.writeE s p D ≠ 0) : Hst.writeS s p D = Hst.none := by unfold Hst.writeS; rw [if_neg h]

set_option maxHeartbeats 16000000 in
theorem horder_walk (cs : List Value) (s : Host) (p : Int) (xa : Option Addr) (xn xc : Nat) (A : List UInt8) (ya : Option Addr) (yn yc : Nat) (B : List UInt8) (f1 f2 : Bool) (W : World) (h0 : rHost.rd W (fun b => b < W.heap.size) cs s) (hp1 : -9223372036854775808 ≤ p) (hp2 : p ≤ 9223372036854775807)
    (h1 : rBytes.rd W (fun b => b < W.heap.size) [.slice xa xn xc] A) (h2 : rBytes.rd W (fun b => b < W.heap.size) [.slice ya yn yc] B) :
    Calls Try.prog 4 #[.agg cs.toArray, .int .i64 p, .slice xa xn xc, .slice ya yn yc, .bool f1, .bool f2] W fun e W' => e = .returned (.bool true) ∧ Below W.heap.size W W' := by
  have h0' := h0
  obtain ⟨a, n, c, b, m, d, rfl, -⟩ := rHost_cells h0'
  clear h0'
  have HA0 : Hid _ := h1
  have HB0 : Hid _ := h2
  have HS0 : Hid _ := h0
  clear h0 h1 h2
  obtain ⟨vs, hvs, -, -, -, bvs, zvs⟩ := boxed3 W 25 (.slice a n c) (.slice b m d) (.int .i64 s.2.2)
  have Vs : Hid (Var3 vs W.heap.size (.slice a n c) (.slice b m d) (.int .i64 s.2.2)) := by rw [← hvs]; exact var3_new _ _ _ _ _
  have HZs : Hid _ := zvs
  clear zvs
  go_enter Try.func4, Try.ntmps4
  go_wp2_with fail
  refine (alive_u _).mono ?_
  rintro e w1 ⟨rfl, b1⟩
  have X1 : Hid _ := (Vs.out.below b1)
  have p10 := X1.out.c0
  have p11 := X1.out.c1
  have p12 := X1.out.c2
  go_wp2_with fail
  refine (of_u _ _ _ s (Rep.below HS0.out (on bvs b1))).mono ?_
  rintro e w2 ⟨cs2, rfl, hr2, b2⟩
  have HR2 : Hid _ := hr2
  clear hr2
  go_wp2_with fail
  refine (flush_u _ _ _ _ HR2.out).mono ?_
  rintro e w3 ⟨cs3, rfl, hr3, b3⟩
  have hr3' := hr3
  obtain ⟨a3, n3, c3, d3, m3, e3, rfl, hA3, hW3, hn3, hm3, -⟩ := rHost_cells hr3'
  clear hr3'
  obtain ⟨v3, hv3, -, -, -, bv3, zv3⟩ := boxed3 w3 29 (.slice a3 n3 c3) (.slice d3 m3 e3) (.int .i64 (Hst.flushS s).2.2)
  have V3 : Hid (Var3 v3 w3.heap.size (.slice a3 n3 c3) (.slice d3 m3 e3) (.int .i64 (Hst.flushS s).2.2)) := by rw [← hv3]; exact var3_new _ _ _ _ _
  have HZ3 : Hid _ := zv3
  clear zv3
  have HA3 : Hid _ := hA3
  clear hA3
  have HW3 : Hid _ := hW3
  clear hW3
  have HN3 : Hid _ := hn3
  clear hn3
  have HM3 : Hid _ := hm3
  clear hm3
  have HR3 : Hid _ := hr3
  clear hr3
  clear X1 p10 p11 p12
  have X2 : Hid _ := V3.out
  have p20 := X2.out.c0
  have p21 := X2.out.c1
  have p22 := X2.out.c2
  go_wp2_with fail
  refine (write_u _ (fun _ => True) _ _ p xa xn xc A hp1 hp2 (rHost.weaken (Rep.below HR3.out bv3) (fun _ _ _ => trivial)) (rBytes.weaken (Rep.below HA0.out (on (on (on (on bvs b1) b2) b3) bv3)) (fun _ _ _ => trivial))).mono ?_
  rintro e w4 ⟨cs4, rfl, hr4, b4⟩
  have hr4' := hr4
  obtain ⟨a4, n4, c4, d4, m4, e4, rfl, hA4, hW4, hn4, hm4, -⟩ := rHost_cells hr4'
  clear hr4'
  obtain ⟨v4, hv4, -, -, -, bv4, zv4⟩ := boxed3 w4 29 (.slice a4 n4 c4) (.slice d4 m4 e4) (.int .i64 (Hst.writeS (Hst.flushS s) p A).2.2)
  have V4 : Hid (Var3 v4 w4.heap.size (.slice a4 n4 c4) (.slice d4 m4 e4) (.int .i64 (Hst.writeS (Hst.flushS s) p A).2.2)) := by rw [← hv4]; exact var3_new _ _ _ _ _
  have HZ4 : Hid _ := zv4
  clear zv4
  have HA4 : Hid _ := hA4
  clear hA4
  have HW4 : Hid _ := hW4
  clear hW4
  have HN4 : Hid _ := hn4
  clear hn4
  have HM4 : Hid _ := hm4
  clear hm4
  have HR4 : Hid _ := hr4
  clear hr4
  clear X2 p20 p21 p22
  have X3 : Hid _ := V4.out
  have p30 := X3.out.c0
  have p31 := X3.out.c1
  have p32 := X3.out.c2
  go_wp2_with fail
  refine (write_u _ (fun _ => True) _ _ p ya yn yc B hp1 hp2 (rHost.weaken (Rep.below HR4.out bv4) (fun _ _ _ => trivial)) (rBytes.weaken (Rep.below HB0.out (on (on (on (on (on (on bvs b1) b2) b3) bv3) b4) bv4)) (fun _ _ _ => trivial))).mono ?_
  rintro e w5 ⟨cs5, rfl, hr5, b5⟩
  have hr5' := hr5
  obtain ⟨a5, n5, c5, d5, m5, e5, rfl, hA5, hW5, hn5, hm5, -⟩ := rHost_cells hr5'
  clear hr5'
  obtain ⟨v5, hv5, -, -, -, bv5, zv5⟩ := boxed3 w5 29 (.slice a5 n5 c5) (.slice d5 m5 e5) (.int .i64 (Hst.writeS (Hst.writeS (Hst.flushS s) p A) p B).2.2)
  have V5 : Hid (Var3 v5 w5.heap.size (.slice a5 n5 c5) (.slice d5 m5 e5) (.int .i64 (Hst.writeS (Hst.writeS (Hst.flushS s) p A) p B).2.2)) := by rw [← hv5]; exact var3_new _ _ _ _ _
  have HZ5 : Hid _ := zv5
  clear zv5
  have HA5 : Hid _ := hA5
  clear hA5
  have HW5 : Hid _ := hW5
  clear hW5
  have HN5 : Hid _ := hn5
  clear hn5
  have HM5 : Hid _ := hm5
  clear hm5
  have HR5 : Hid _ := hr5
  clear hr5
  clear X3 p30 p31 p32
  cases hok : Hst.ok s
  · rw [Hst.check_bad hok]
    obtain rfl : n3 = 0 := by rw [← HN3.out]; unfold Hst.flushS; rw [hok]; rfl
    clear hok
    go_wp2_with fail
    refine (num_u _ _).mono ?_
    rintro e w99 ⟨rfl, rfl⟩
    have X4 : Hid _ := (V3.out.below (on (on (on b4 bv4) b5) bv5))
    have p40 := X4.out.c0
    have p41 := X4.out.c1
    have p42 := X4.out.c2
    go_wp2
    go_ret
    exact ⟨rfl, (on (on (on (on (on (on (on (on bvs b1) b2) b3) bv3) b4) bv4) b5) bv5)⟩
  · rw [Hst.check_ok hok]
    have HOK : Hid _ := hok
    clear hok
    go_wp2_with fail
    refine (num_u _ _).mono ?_
    rintro e w99 ⟨rfl, rfl⟩
    by_cases hE2 : Hst.writeE (Hst.flushS s) p A = 0
    · rw [hE2]
      go_wp2_with fail
      refine (num_u _ _).mono ?_
      rintro e w99 ⟨rfl, rfl⟩
      by_cases hE3 : Hst.writeE (Hst.writeS (Hst.flushS s) p A) p B = 0
      · rw [hE3]
        go_wp2_with fail
        refine (num_u _ _).mono ?_
        rintro e w99 ⟨rfl, rfl⟩
        obtain ⟨t, rfl⟩ : ∃ t : Nat, p = t := ⟨p.toNat, by have := (Hst.writeE_zero.1 hE2).2.1; omega⟩
        have ew : (Hst.flushS s).2.1 = [] := by rw [Hst.flush_ok HOK.out]
        have HORD : Hid _ := Hst.order_at (f1 := f1) (f2 := f2) ew hE2 hE3
        have HOK5 : Hid _ := Hst.ok_write hE3
        have hlt3 : t < (Hst.flushS s).1.length := HORD.out.2.1
        have ht3 : t < n3 := by rw [← HN3.out]; exact hlt3
        clear ew hE2 hE3
        have X4 : Hid _ := V5.out
        have p40 := X4.out.c0
        have p41 := X4.out.c1
        have p42 := X4.out.c2
        obtain ⟨vk, hvk⟩ : ∃ vk, v5.alloc (.cells #[.bool f1, .bool f2] 4) = vk := ⟨_, rfl⟩
        have bvk : Below v5.heap.size v5 vk := by rw [← hvk]; exact (Below.refl _ _).alloc (Nat.le_refl _) _
        have HKK : Hid (rBools.rd vk (fun _ => True) [.slice (some ⟨v5.heap.size, 0, none⟩) 2 2] [f1, f2]) := by
          rw [← hvk]
          exact rd_row (row_new _ _ [.bool f1, .bool f2]) (fun j v h => h) ⟨[_], [_], rfl, rfl, [_], [], rfl, rfl, rfl⟩ rfl (Nat.le_refl _) (by decide) trivial
        go_wp2_with fail
        refine (crash_u _ (fun _ => True) _ _ (some ⟨v5.heap.size, 0, none⟩) 2 2 [f1, f2] (rHost.weaken (Rep.below HR5.out (on bv5 bvk)) (fun _ _ _ => trivial)) HKK.out).mono ?_
        rintro e w6 ⟨cs6, rfl, hr6, b6⟩
        rw [Hst.check_ok HOK5.out]
        have hr6' := hr6
        obtain ⟨a6, n6, c6, d6, m6, e6, rfl, hA6, hW6, hn6, hm6, -⟩ := rHost_cells hr6'
        clear hr6'
        obtain ⟨v6, hv6, -, -, -, bv6, zv6⟩ := boxed3 w6 29 (.slice a6 n6 c6) (.slice d6 m6 e6) (.int .i64 (Hst.crashS (Hst.writeS (Hst.writeS (Hst.flushS s) (t : Int) A) (t : Int) B) [f1, f2]).2.2)
        have V6 : Hid (Var3 v6 w6.heap.size (.slice a6 n6 c6) (.slice d6 m6 e6) (.int .i64 (Hst.crashS (Hst.writeS (Hst.writeS (Hst.flushS s) (t : Int) A) (t : Int) B) [f1, f2]).2.2)) := by rw [← hv6]; exact var3_new _ _ _ _ _
        have HZ6 : Hid _ := zv6
        clear zv6
        have HA6 : Hid _ := hA6
        clear hA6
        have HW6 : Hid _ := hW6
        clear hW6
        have HN6 : Hid _ := hn6
        clear hn6
        have HM6 : Hid _ := hm6
        clear hm6
        clear X4 p40 p41 p42
        obtain ⟨g3, o3, rfl, -, -, hat3⟩ := rLists_at (Rep.below HA3.out (on (on (on (on (on (on (on bv3 b4) bv4) b5) bv5) bvk) b6) bv6)) (by omega)
        obtain ⟨x3, l3, f3, hx3, -, hc3⟩ := hat3 t hlt3
        have HX3 : Hid _ := hx3
        clear hat3 hx3
        have hl6 : t < (Hst.crashS (Hst.writeS (Hst.writeS (Hst.flushS s) (t : Int) A) (t : Int) B) [f1, f2]).1.length := by rw [HORD.out.1]; exact hlt3
        have ht6 : t < n6 := by rw [← HN6.out]; exact hl6
        obtain ⟨g6, o6, rfl, -, -, hat6⟩ := rLists_at (Rep.below HA6.out bv6) (by omega)
        obtain ⟨x6, l6, f6, hx6, -, hc6⟩ := hat6 t hl6
        have e6 := HORD.out.2.2
        rw [List.getElem?_eq_getElem hl6] at e6
        rw [Option.some.inj e6] at hx6
        have HX6 : Hid _ := hx6
        clear hat6 hx6 e6
        have HD3 : Hid ((Hst.flushS s).1.getD t [] = (Hst.flushS s).1[t]'hlt3) := by unfold Hid; rw [List.getD_eq_getElem?_getD, List.getElem?_eq_getElem hlt3]; rfl
        have HPA : Hid _ := (Rep.below HA0.out (on (on (on (on (on (on (on (on (on (on (on bvs b1) b2) b3) bv3) b4) bv4) b5) bv5) bvk) b6) bv6))
        have HPB : Hid _ := (Rep.below HB0.out (on (on (on (on (on (on (on (on (on (on (on bvs b1) b2) b3) bv3) b4) bv4) b5) bv5) bvk) b6) bv6))
        have X5 : Hid _ := (V3.out.below (on (on (on (on (on (on b4 bv4) b5) bv5) bvk) b6) bv6))
        have p50 := X5.out.c0
        have p51 := X5.out.c1
        have p52 := X5.out.c2
        have X6 : Hid _ := V6.out
        have p60 := X6.out.c0
        have p61 := X6.out.c1
        have p62 := X6.out.c2
        cases f2
        · cases f1
          · simp only [Bool.false_eq_true, if_false] at HX6
            rw [HD3.out] at HX6
            go_wp2_with fail
            refine (num_u _ _).mono ?_
            rintro e w99 ⟨rfl, rfl⟩
            go_wp2_with fail
            refine (sameBytes_any _ x6 x3 l6 f6 l3 f3 _ _ (rBytes_isB HX6.out).1 (rBytes_isB HX3.out).1).mono ?_
            rintro e w98 ⟨rfl, rfl⟩
            rw [beq_self_eq_true]
            go_wp2
            go_ret
            exact ⟨rfl, (on (on (on (on (on (on (on (on (on (on (on bvs b1) b2) b3) bv3) b4) bv4) b5) bv5) bvk) b6) bv6)⟩
          · simp only [Bool.false_eq_true, if_false, if_true] at HX6
            go_wp2_with fail
            refine (num_u _ _).mono ?_
            rintro e w99 ⟨rfl, rfl⟩
            go_wp2_with fail
            refine (sameBytes_any _ x6 xa l6 f6 xn xc _ _ (rBytes_isB HX6.out).1 (rBytes_isB HPA.out).1).mono ?_
            rintro e w98 ⟨rfl, rfl⟩
            rw [beq_self_eq_true]
            go_wp2
            go_ret
            exact ⟨rfl, (on (on (on (on (on (on (on (on (on (on (on bvs b1) b2) b3) bv3) b4) bv4) b5) bv5) bvk) b6) bv6)⟩
        · simp only [if_true] at HX6
          go_wp2_with fail
          refine (num_u _ _).mono ?_
          rintro e w99 ⟨rfl, rfl⟩
          go_wp2_with fail
          refine (sameBytes_any _ x6 ya l6 f6 yn yc _ _ (rBytes_isB HX6.out).1 (rBytes_isB HPB.out).1).mono ?_
          rintro e w98 ⟨rfl, rfl⟩
          rw [beq_self_eq_true]
          go_wp2
          go_ret
          exact ⟨rfl, (on (on (on (on (on (on (on (on (on (on (on bvs b1) b2) b3) bv3) b4) bv4) b5) bv5) bvk) b6) bv6)⟩
      · have hne : (Hst.writeE (Hst.writeS (Hst.flushS s) p A) p B != 0) = true := bne_iff_ne.2 hE3
        obtain rfl : n5 = 0 := by rw [← HN5.out, Hst.write_none _ _ hE3]; rfl
        clear hE2 hE3
        go_wp2_with fail
        refine (num_u _ _).mono ?_
        rintro e w99 ⟨rfl, rfl⟩
        have X4 : Hid _ := (V3.out.below (on (on (on b4 bv4) b5) bv5))
        have p40 := X4.out.c0
        have p41 := X4.out.c1
        have p42 := X4.out.c2
        have X5 : Hid _ := (V4.out.below (on b5 bv5))
        have p50 := X5.out.c0
        have p51 := X5.out.c1
        have p52 := X5.out.c2
        have X6 : Hid _ := V5.out
        have p60 := X6.out.c0
        have p61 := X6.out.c1
        have p62 := X6.out.c2
        go_wp2
        all_goals go_ret
        all_goals exact ⟨rfl, (on (on (on (on (on (on (on (on bvs b1) b2) b3) bv3) b4) bv4) b5) bv5)⟩
    · have hne : (Hst.writeE (Hst.flushS s) p A != 0) = true := bne_iff_ne.2 hE2
      obtain rfl : n4 = 0 := by rw [← HN4.out, Hst.write_none _ _ hE2]; rfl
      clear hE2
      go_wp2_with fail
      refine (num_u _ _).mono ?_
      rintro e w99 ⟨rfl, rfl⟩
      have X4 : Hid _ := (V3.out.below (on (on (on b4 bv4) b5) bv5))
      have p40 := X4.out.c0
      have p41 := X4.out.c1
      have p42 := X4.out.c2
      have X5 : Hid _ := (V4.out.below (on b5 bv5))
      have p50 := X5.out.c0
      have p51 := X5.out.c1
      have p52 := X5.out.c2
      have X6 : Hid _ := V5.out
      have p60 := X6.out.c0
      have p61 := X6.out.c1
      have p62 := X6.out.c2
      go_wp2
      all_goals go_ret
      all_goals exact ⟨rfl, (on (on (on (on (on (on (on (on bvs b1) b2) b3) bv3) b4) bv4) b5) bv5)⟩

set_option maxRecDepth 100000 in
theorem horder_lifted (os : Os) (started : os.Started) (H : Type) (enc : TypeId × Value → H) :
    ReturnsInHanded {} Try.checked os 4 .any (Rows.hostOrderSpec.pre6 enc Try.prog Try.f4 Rows.hostOrderRow.domain false) (Rows.hostOrderSpec.post enc Try.prog Try.f4 false true false false) := by
  refine returnsInHanded_of_change_sized (C := Try.checked) own started (by kernel_rfl) Try.func4
    (ChangeSpec.witness6 (enc := enc) (C := Try.checked) false ⟨#[], #[.agg #[.slice none 0 0, .slice none 0 0, .int .i64 0], .int .i64 0, .slice none 0 0, .slice none 0 0, .bool false, .bool false], []⟩ 8 (by kernel_rfl) (by kernel_rfl) (by kernel_rfl) (by kernel_rfl)) ?_
  intro W base args ds gs before hval0 hW _ hsz0 _
  have hsz : (DataW.weightsEach Try.prog (Try.f4.params.toList ++ Rows.hostOrderSpec.plain.varTypes Try.prog) (ds ++ gs)).all (· ≤ reachBytes) = true := hsz0
  clear hsz0
  have hval : ∀ (j : Nat) t v, Try.f4.params[j]? = some t → args[j]? = some v → Value.okWide Try.prog W .any base t v := hval0
  have hW' := hW
  obtain ⟨p, q, hA0, hV, rfl, hfz, hnd⟩ := hW
  have hA : DataW.TrodAll enc Try.prog W 0 (fun _ => true) true Try.f4.params.toList args.toList ds p := hA0
  rw [Try.params4] at hA hval hsz
  obtain ⟨v0, vs0, d0, ds0, p0, q0, hargs, rfl, rfl, h0, r0⟩ := trodAll_cons hA
  obtain ⟨v1, vs1, d1, ds1, p1, q1, rfl, rfl, rfl, h1, r1⟩ := trodAll_cons r0
  obtain ⟨v2, vs2, d2, ds2, p2, q2, rfl, rfl, rfl, h2, r2⟩ := trodAll_cons r1
  obtain ⟨v3, vs3, d3, ds3, p3, q3, rfl, rfl, rfl, h3, r3⟩ := trodAll_cons r2
  obtain ⟨v4, vs4, d4, ds4, p4, q4, rfl, rfl, rfl, h4, r4⟩ := trodAll_cons r3
  obtain ⟨v5, vs5, d5, ds5, p5, q5, rfl, rfl, rfl, h5, r5⟩ := trodAll_cons r4
  obtain ⟨rfl, rfl, rfl⟩ := trodAll_nil r5
  obtain rfl : args = #[v0, v1, v2, v3, v4, v5] := by cases args; simp_all
  obtain ⟨rfl, rfl⟩ := trodVars_none hV
  obtain ⟨c0, rfl, -⟩ := okWide_struct Try.underlying25 (hval 0 25 v0 rfl rfl)
  have k0 := h0
  have lt0 : ∀ x ∈ p0, x.block < W.heap.size := by obtain ⟨m, hm⟩ := k0; exact DataW.trod_lt m _ _ _ hm
  obtain ⟨x0, hx0⟩ := opens_refHost.arg h0 hsz (j := 0) rfl rfl
  obtain ⟨a1, rfl, rfl, rfl, w1⟩ := open_int Try.underlying3 (hval 1 3 v1 rfl rfl) h1
  have i1 := bounds_i64 w1
  obtain ⟨a2, len2, cap2, rfl⟩ := okWide_slice Try.underlying38 (hval 2 38 v2 rfl rfl)
  have k2 := h2
  have lt2 : ∀ x ∈ p2, x.block < W.heap.size := by obtain ⟨m, hm⟩ := k2; exact DataW.trod_lt m _ _ _ hm
  obtain ⟨x2, hx2⟩ := opens_octets.arg h2 hsz (j := 2) rfl rfl
  obtain ⟨a3, len3, cap3, rfl⟩ := okWide_slice Try.underlying38 (hval 3 38 v3 rfl rfl)
  have k3 := h3
  have lt3 : ∀ x ∈ p3, x.block < W.heap.size := by obtain ⟨m, hm⟩ := k3; exact DataW.trod_lt m _ _ _ hm
  obtain ⟨x3, hx3⟩ := opens_octets.arg h3 hsz (j := 3) rfl rfl
  obtain ⟨a4, rfl, rfl, rfl⟩ := open_bool Try.underlying4 (hval 4 4 v4 rfl rfl) h4
  obtain ⟨a5, rfl, rfl, rfl⟩ := open_bool Try.underlying4 (hval 5 4 v5 rfl rfl) h5
  clear hA0 hval0
  refine (horder_walk c0.toList x0 a1 a2 len2 cap2 x2 a3 len3 cap3 x3 a4 a5 W hx0 (by omega) (by omega) hx2 hx3).mono fun e W' ⟨he, bel⟩ => ?_
  subst he
  exact ⟨_, rfl, _, _, _, [], _, [], hW', trodAll_mk1 (shut_bool Try.underlying4 _), (trodAll_cons_mk (Below.trod laidOut (by kernel_rfl) (of_decide_eq_true (by kernel_rfl)) k0 bel lt0) (trodAll_cons_mk (shut_int Try.underlying3 w1) (trodAll_cons_mk (Below.trod laidOut (by kernel_rfl) (of_decide_eq_true (by kernel_rfl)) k2 bel lt2) (trodAll_cons_mk (Below.trod laidOut (by kernel_rfl) (of_decide_eq_true (by kernel_rfl)) k3 bel lt3) (trodAll_cons_mk (shut_bool Try.underlying4 a4) (trodAll_cons_mk (shut_bool Try.underlying4 a5) trodAll_mk0)))))), rfl, bel.frame _, fun h => by cases h⟩

theorem hostOrder_holds : Rows.HostOrderSaid :=
  OpenClaim.holds_of_wide 4 Try.f4 rfl rfl rfl rfl rfl rfl rfl ⟨rfl, rfl, rfl, rfl, rfl⟩ rfl rfl rfl rfl rfl (by kernel_rfl) Try.func4 (by kernel_rfl)
    (of_decide_eq_true (by kernel_rfl)) (by unfold Func.isWrapper; first | (rw [if_pos (by decide +kernel)]; kernel_rfl) | (rw [if_neg (by decide +kernel)]; exact ⟨rfl, rfl⟩))
    (fun os started H enc _ => horder_lifted os started H enc)

end Go.Proofs.Ytckcicomkapdeab
