/-
  Behind a length there are so many sectors; those that are new are zeros, those that were stay. Conditions: none.
-/
import Derived.Test.YtckcicomkapdeabRAlive
import Derived.Test.YtckcicomkapdeabROf
import Derived.Test.YtckcicomkapdeabRFrame
import Derived.Test.YtckcicomkapdeabHPlain2
import Derived.Test.YtckcicomkapdeabBSame
namespace Go.Proofs.Ytckcicomkapdeab
open Go.ChangeShapes Go.WideShapes Go.ChangeAt Go.RowKit
set_option linter.unusedVariables false

theorem Hst.flush_resize {s : Host} {n : Nat} (h : Hst.resizeE s n = 0) : Hst.flushS (Hst.resizeS s n) = ((Hst.flushS s).1.take n ++ List.replicate (n - (Hst.flushS s).1.length) Hst.zeros, [], s.2.2) := by
  have hok := Hst.ok_resize h
  have hs : Hst.resizeS s n = (s.1, s.2.1 ++ [(2, (n : Int), [])], s.2.2) := by simp [Hst.resizeS, h]
  obtain ⟨h0, -⟩ := Hst.resizeE_zero.1 h
  rw [Hst.flush_ok hok, hs, Hst.flush_ok h0]
  simp only
  rw [Hst.doneAll_snoc]
  simp [Hst.all, Hst.done]

theorem Hst.resize_length {s : Host} {n : Nat} (h : Hst.resizeE s n = 0) : (Hst.flushS (Hst.resizeS s n)).1.length = n ∧ Hst.lengthN (Hst.resizeS s n) = n := by
  have hok := Hst.ok_resize h
  have e : (Hst.flushS (Hst.resizeS s n)).1.length = n := by rw [Hst.flush_resize h]; simp; omega
  exact ⟨e, by rw [← Hst.flush_length hok]; exact e⟩

theorem Hst.resize_at {s : Host} {n t : Nat} (h : Hst.resizeE s n = 0) (ht : t < n) (h2 : t < (Hst.flushS (Hst.resizeS s n)).1.length) :
    (Hst.flushS (Hst.resizeS s n)).1[t] = if t < Hst.lengthN s then Hst.readL s t else Hst.zeros := by
  obtain ⟨h0, -⟩ := Hst.resizeE_zero.1 h
  have e : (Hst.flushS (Hst.resizeS s n)).1[t]? = some (if t < Hst.lengthN s then Hst.readL s t else Hst.zeros) := by
    rw [Hst.flush_resize h]
    simp only
    by_cases h3 : t < Hst.lengthN s
    · have h4 : t < (Hst.flushS s).1.length := by rw [Hst.flush_length h0]; exact h3
      rw [if_pos h3, List.getElem?_append_left (by rw [List.length_take]; omega), List.getElem?_take, if_pos ht]
      unfold Hst.readL
      rw [if_pos (Hst.readE_zero.2 ⟨h0, by omega, by omega⟩), Int.toNat_natCast, List.getD_eq_getElem?_getD, List.getElem?_eq_getElem h4]
      rfl
    · have h4 : (Hst.flushS s).1.length ≤ t := by rw [Hst.flush_length h0]; omega
      rw [if_neg h3, List.getElem?_append_right (by rw [List.length_take]; omega), List.getElem?_replicate, if_pos (by rw [List.length_take]; omega)]
  rw [List.getElem?_eq_getElem h2] at e
  exact Option.some.inj e

theorem Hst.read_resize {s : Host} {n t : Nat} (h : Hst.resizeE s n = 0) (ht : t < n) :
    Hst.readE (Hst.resizeS s n) t = 0 ∧ Hst.readL (Hst.resizeS s n) t = if t < Hst.lengthN s then Hst.readL s t else Hst.zeros := by
  have hok := Hst.ok_resize h
  have hl := Hst.resize_length h
  have e : Hst.readE (Hst.resizeS s n) t = 0 := Hst.readE_zero.2 ⟨hok, by omega, by rw [hl.2]; omega⟩
  refine ⟨e, ?_⟩
  have h2 : t < (Hst.flushS (Hst.resizeS s n)).1.length := by rw [hl.1]; exact ht
  unfold Hst.readL
  rw [if_pos e, Int.toNat_natCast, List.getD_eq_getElem?_getD, List.getElem?_eq_getElem h2, Option.getD_some, Hst.resize_at h ht h2]
  rfl

set_option maxHeartbeats 16000000 in
theorem hlengths_walk (cs : List Value) (s : Host) (p q : Int) (W : World) (h0 : rHost.rd W (fun b => b < W.heap.size) cs s) (hp1 : -9223372036854775808 ≤ p) (hp2 : p ≤ 9223372036854775807) (hq1 : -9223372036854775808 ≤ q) (hq2 : q ≤ 9223372036854775807) :
    Calls Try.prog 3 #[.agg cs.toArray, .int .i64 p, .int .i64 q] W fun e W' => e = .returned (.bool true) ∧ Below W.heap.size W W' := by
  have h0' := h0
  obtain ⟨a, n, c, b, m, d, rfl, -⟩ := rHost_cells h0'
  clear h0'
  have HS0 : Hid _ := h0
  clear h0
  obtain ⟨vs, hvs, -, -, -, bvs, zvs⟩ := boxed3 W 25 (.slice a n c) (.slice b m d) (.int .i64 s.2.2)
  have Vs : Hid (Var3 vs W.heap.size (.slice a n c) (.slice b m d) (.int .i64 s.2.2)) := by rw [← hvs]; exact var3_new _ _ _ _ _
  have HZs : Hid _ := zvs
  clear zvs
  by_cases hE : Hst.resizeE s p = 0
  · obtain ⟨g0, g1, g2, -⟩ := Hst.resizeE_zero.1 hE
    obtain ⟨t, rfl⟩ : ∃ t : Nat, p = t := ⟨p.toNat, by omega⟩
    have HOK0 : Hid _ := g0
    clear g0 g1 g2
    have HE : Hid _ := hE
    clear hE
    go_enter Try.func3, Try.ntmps3
    go_wp2_with fail
    refine (alive_u _).mono ?_
    rintro e w1 ⟨rfl, b1⟩
    have X1 : Hid _ := (Vs.out.below b1)
    have p10 := X1.out.c0
    have p11 := X1.out.c1
    have p12 := X1.out.c2
    go_wp2_with fail
    refine (of_u _ _ _ s (Rep.below HS0.out (on bvs b1))).mono ?_
    rintro e w2 ⟨cs2, rfl, hr2, b2⟩
    have HR2 : Hid _ := hr2
    clear hr2
    go_wp2_with fail
    refine (resize_u _ _ _ _ (t : Int) hp1 hp2 HR2.out).mono ?_
    rintro e w3 ⟨cs3, rfl, hr3, b3⟩
    rw [HE.out]
    have hr3' := hr3
    obtain ⟨a3, n3, c3, d3, m3, e3, rfl, hA3, hW3, hn3, hm3, -⟩ := rHost_cells hr3'
    clear hr3'
    obtain ⟨v3, hv3, -, -, -, bv3, zv3⟩ := boxed3 w3 29 (.slice a3 n3 c3) (.slice d3 m3 e3) (.int .i64 (Hst.resizeS s (t : Int)).2.2)
    have V3 : Hid (Var3 v3 w3.heap.size (.slice a3 n3 c3) (.slice d3 m3 e3) (.int .i64 (Hst.resizeS s (t : Int)).2.2)) := by rw [← hv3]; exact var3_new _ _ _ _ _
    have HZ3 : Hid _ := zv3
    clear zv3
    have HA3 : Hid _ := hA3
    clear hA3
    have HW3 : Hid _ := hW3
    clear hW3
    have HN3 : Hid _ := hn3
    clear hn3
    have HM3 : Hid _ := hm3
    clear hm3
    have HR3 : Hid _ := hr3
    clear hr3
    clear X1 p10 p11 p12
    have HOK : Hid _ := Hst.ok_resize HE.out
    have HLEN : Hid _ := Hst.resize_length HE.out
    go_wp2_with fail
    refine (num_u _ _).mono ?_
    rintro e w99 ⟨rfl, rfl⟩
    have X2 : Hid _ := (Vs.out.below (on (on (on b1 b2) b3) bv3))
    have p20 := X2.out.c0
    have p21 := X2.out.c1
    have p22 := X2.out.c2
    go_wp2_with fail
    refine (of_u _ _ _ s (Rep.below HS0.out (on (on (on (on bvs b1) b2) b3) bv3))).mono ?_
    rintro e w4 ⟨cs4, rfl, hr4, b4⟩
    have HR4 : Hid _ := hr4
    clear hr4
    go_wp2_with fail
    refine (length_u _ _ _ _ HR4.out).mono ?_
    rintro e w5 ⟨rfl, b5⟩
    rw [Hst.check_ok HOK0.out]
    clear X2 p20 p21 p22
    have X3 : Hid _ := (V3.out.below (on b4 b5))
    have p30 := X3.out.c0
    have p31 := X3.out.c1
    have p32 := X3.out.c2
    go_wp2_with fail
    refine (length_u _ _ _ _ (Rep.below HR3.out (on (on bv3 b4) b5))).mono ?_
    rintro e w6 ⟨rfl, b6⟩
    rw [Hst.check_ok HOK.out, HLEN.out.2]
    clear X3 p30 p31 p32
    have X4 : Hid _ := (V3.out.below (on (on b4 b5) b6))
    have p40 := X4.out.c0
    have p41 := X4.out.c1
    have p42 := X4.out.c2
    go_wp2_with fail
    refine (flush_u _ _ _ _ (Rep.below HR3.out (on (on (on bv3 b4) b5) b6))).mono ?_
    rintro e w7 ⟨cs7, rfl, hr7, b7⟩
    rw [Hst.check_ok HOK.out]
    have hr7' := hr7
    obtain ⟨a7, n7, c7, d7, m7, e7, rfl, hA7, hW7, hn7, hm7, -⟩ := rHost_cells hr7'
    clear hr7'
    obtain ⟨v7, hv7, -, -, -, bv7, zv7⟩ := boxed3 w7 29 (.slice a7 n7 c7) (.slice d7 m7 e7) (.int .i64 (Hst.flushS (Hst.resizeS s (t : Int))).2.2)
    have V7 : Hid (Var3 v7 w7.heap.size (.slice a7 n7 c7) (.slice d7 m7 e7) (.int .i64 (Hst.flushS (Hst.resizeS s (t : Int))).2.2)) := by rw [← hv7]; exact var3_new _ _ _ _ _
    have HZ7 : Hid _ := zv7
    clear zv7
    have HA7 : Hid _ := hA7
    clear hA7
    have HW7 : Hid _ := hW7
    clear hW7
    have HN7 : Hid _ := hn7
    clear hn7
    have HM7 : Hid _ := hm7
    clear hm7
    have HR7 : Hid _ := hr7
    clear hr7
    obtain rfl : n7 = t := by rw [← HN7.out]; exact HLEN.out.1
    clear X4 p40 p41 p42
    go_wp2_with fail
    refine (num_u _ _).mono ?_
    rintro e w99 ⟨rfl, rfl⟩
    go_wp2_with fail
    refine (num_u _ _).mono ?_
    rintro e w99 ⟨rfl, rfl⟩
    go_wp2_with fail
    refine (num_u _ _).mono ?_
    rintro e w99 ⟨rfl, rfl⟩
    have hne2 : ((n7 : Int) != (n7 : Int)) = false := bne_self_eq_false _
    have X5 : Hid _ := (V3.out.below (on (on (on (on b4 b5) b6) b7) bv7))
    have p50 := X5.out.c0
    have p51 := X5.out.c1
    have p52 := X5.out.c2
    have X6 : Hid _ := V7.out
    have p60 := X6.out.c0
    have p61 := X6.out.c1
    have p62 := X6.out.c2
    go_wp2_with fail
    refine (read_u _ _ _ _ q (Rep.below HR3.out (on (on (on (on (on bv3 b4) b5) b6) b7) bv7))).mono ?_
    rintro e w8 ⟨a8, n8, c8, rfl, hr8, b8⟩
    by_cases hq : 0 ≤ q ∧ q < (n7 : Int)
    · obtain ⟨hq3, hq4⟩ := hq
      obtain ⟨u, rfl⟩ : ∃ u : Nat, q = u := ⟨q.toNat, by omega⟩
      have hu : u < n7 := by omega
      have HRR : Hid _ := Hst.read_resize HE.out hu
      rw [HRR.out.1]
      rw [HRR.out.2] at hr8
      have HR8 : Hid _ := hr8
      clear hr8
      clear X5 p50 p51 p52
      clear X6 p60 p61 p62
      have X7 : Hid _ := (Vs.out.below (on (on (on (on (on (on (on (on (on b1 b2) b3) bv3) b4) b5) b6) b7) bv7) b8))
      have p70 := X7.out.c0
      have p71 := X7.out.c1
      have p72 := X7.out.c2
      by_cases hold : u < Hst.lengthN s
      · rw [if_pos hold] at HR8
        have hoi : (u : Int) < (Hst.lengthN s : Int) := by omega
        have BB : Hid (Below W.heap.size W w8) := (on (on (on (on (on (on (on (on (on (on bvs b1) b2) b3) bv3) b4) b5) b6) b7) bv7) b8)
        go_wp2_with (at_make; refine make_row _ rfl _ _ 38 rfl 5 (.int .u8 0) 1 Try.underlying38 info_u8 rfl 64 _ rfl rfl rfl (by decide) (by decide) ?_; intro w9 HRW bb9 z9; have XX : Hid _ := (Vs.out.below (on (on (on (on (on (on (on (on (on b1 b2) b3) bv3) b4) b5) b6) b7) bv7) b8)).below bb9; have xx0 := XX.out.c0; have xx1 := XX.out.c1; have xx2 := XX.out.c2)
        refine (of_u _ _ _ s (Rep.below HS0.out (on (on (on (on (on (on (on (on (on (on (on bvs b1) b2) b3) bv3) b4) b5) b6) b7) bv7) b8) bb9))).mono ?_
        rintro e w10 ⟨cs10, rfl, hr10, b10⟩
        go_wp2_with fail
        refine (read_u _ _ _ _ (u : Int) hr10).mono ?_
        rintro e w11 ⟨a11, n11, c11, rfl, hr11, b11⟩
        have HR11 : Hid _ := hr11
        clear hr11
        have h9 : u < (Hst.flushS (Hst.resizeS s (n7 : Int))).1.length := by rw [HLEN.out.1]; exact hu
        have HAT : Hid _ := Hst.resize_at HE.out hu h9
        rw [if_pos hold] at HAT
        obtain ⟨g9, o9, rfl, -, -, hat⟩ := rLists_at (Rep.below HA7.out (on (on (on (on bv7 b8) bb9) b10) b11)) (by omega)
        obtain ⟨x9, m9, d9, hx9, -, hcell9⟩ := hat u h9
        rw [HAT.out] at hx9
        have HX9 : Hid _ := hx9
        clear hat hx9
        have X8 : Hid _ := (V7.out.below (on (on (on b8 bb9) b10) b11))
        have p80 := X8.out.c0
        have p81 := X8.out.c1
        have p82 := X8.out.c2
        go_wp2_with fail
        refine (num_u _ _).mono ?_
        rintro e w99 ⟨rfl, rfl⟩
        go_wp2_with fail
        refine (sameBytes_any _ a8 a11 n8 c8 n11 c11 _ _ (rBytes_isB (Rep.below HR8.out (on (on bb9 b10) b11))).1 (rBytes_isB HR11.out).1).mono ?_
        rintro e w98 ⟨rfl, rfl⟩
        rw [beq_self_eq_true]
        go_wp2_with fail
        refine (sameBytes_any _ x9 a11 m9 d9 n11 c11 _ _ (rBytes_isB HX9.out).1 (rBytes_isB HR11.out).1).mono ?_
        rintro e w97 ⟨rfl, rfl⟩
        rw [beq_self_eq_true]
        go_wp2
        go_ret
        exact ⟨rfl, (on (on (on (on (on (on (on (on (on (on (on (on (on bvs b1) b2) b3) bv3) b4) b5) b6) b7) bv7) b8) bb9) b10) b11)⟩
      · rw [if_neg hold] at HR8
        have hoi : (Hst.lengthN s : Int) ≤ (u : Int) := by omega
        go_wp2_with (at_make; refine make_row _ rfl _ _ 38 rfl 5 (.int .u8 0) 1 Try.underlying38 info_u8 rfl 64 _ rfl rfl rfl (by decide) (by decide) ?_; intro w9 HRW bb9 z9)
        have HR11 : Hid (rBytes.rd w9 (fun _ => True) [.slice (some ⟨w8.heap.size, 0, none⟩) 64 64] Hst.zeros) := rd_row HRW.out (fun j v h => h) (rdAll_bytes w9 (fun _ => True) Hst.zeros) rfl (Nat.le_refl _) (by decide) trivial
        have h9 : u < (Hst.flushS (Hst.resizeS s (n7 : Int))).1.length := by rw [HLEN.out.1]; exact hu
        have HAT : Hid _ := Hst.resize_at HE.out hu h9
        rw [if_neg hold] at HAT
        obtain ⟨g9, o9, rfl, -, -, hat⟩ := rLists_at (Rep.below HA7.out (on (on bv7 b8) bb9)) (by omega)
        obtain ⟨x9, m9, d9, hx9, -, hcell9⟩ := hat u h9
        rw [HAT.out] at hx9
        have HX9 : Hid _ := hx9
        clear hat hx9
        have X8 : Hid _ := (V7.out.below (on b8 bb9))
        have p80 := X8.out.c0
        have p81 := X8.out.c1
        have p82 := X8.out.c2
        refine (num_u _ _).mono ?_
        rintro e w99 ⟨rfl, rfl⟩
        go_wp2_with fail
        refine (sameBytes_any _ a8 _ n8 c8 64 64 _ _ (rBytes_isB (Rep.below HR8.out bb9)).1 (rBytes_isB HR11.out).1).mono ?_
        rintro e w98 ⟨rfl, rfl⟩
        rw [beq_self_eq_true]
        go_wp2_with fail
        refine (sameBytes_any _ x9 _ m9 d9 64 64 _ _ (rBytes_isB HX9.out).1 (rBytes_isB HR11.out).1).mono ?_
        rintro e w97 ⟨rfl, rfl⟩
        rw [beq_self_eq_true]
        go_wp2
        go_ret
        exact ⟨rfl, (on (on (on (on (on (on (on (on (on (on (on bvs b1) b2) b3) bv3) b4) b5) b6) b7) bv7) b8) bb9)⟩
    · have HRE : Hid (Hst.readE (Hst.resizeS s (n7 : Int)) q = 4) := by
        unfold Hid
        rw [Hst.read_of HOK.out, HLEN.out.1]
        exact if_neg hq
      rw [HRE.out]
      by_cases hq5 : q < 0
      · clear hq
        go_wp2_with fail
        refine (num_u _ _).mono ?_
        rintro e w99 ⟨rfl, rfl⟩
        go_wp2
        go_ret
        exact ⟨rfl, (on (on (on (on (on (on (on (on (on (on bvs b1) b2) b3) bv3) b4) b5) b6) b7) bv7) b8)⟩
      · have hq6 : (n7 : Int) ≤ q := by omega
        have hq7 : 0 ≤ q := by omega
        clear hq hq5
        go_wp2_with fail
        refine (num_u _ _).mono ?_
        rintro e w99 ⟨rfl, rfl⟩
        go_wp2
        go_ret
        exact ⟨rfl, (on (on (on (on (on (on (on (on (on (on bvs b1) b2) b3) bv3) b4) b5) b6) b7) bv7) b8)⟩
  · have HE : Hid _ := hE
    have hne : (Hst.resizeE s p != 0) = true := bne_iff_ne.2 hE
    have HN : Hid (Hst.resizeS s p = Hst.none) := by unfold Hid Hst.resizeS; rw [if_neg hE]
    clear hE
    go_enter Try.func3, Try.ntmps3
    go_wp2_with fail
    refine (alive_u _).mono ?_
    rintro e w1 ⟨rfl, b1⟩
    have X1 : Hid _ := (Vs.out.below b1)
    have p10 := X1.out.c0
    have p11 := X1.out.c1
    have p12 := X1.out.c2
    go_wp2_with fail
    refine (of_u _ _ _ s (Rep.below HS0.out (on bvs b1))).mono ?_
    rintro e w2 ⟨cs2, rfl, hr2, b2⟩
    have HR2 : Hid _ := hr2
    clear hr2
    go_wp2_with fail
    refine (resize_u _ _ _ _ p hp1 hp2 HR2.out).mono ?_
    rintro e w3 ⟨cs3, rfl, hr3, b3⟩
    have hr3' := hr3
    obtain ⟨a3, n3, c3, d3, m3, e3, rfl, hA3, hW3, hn3, hm3, -⟩ := rHost_cells hr3'
    clear hr3'
    obtain ⟨v3, hv3, -, -, -, bv3, zv3⟩ := boxed3 w3 29 (.slice a3 n3 c3) (.slice d3 m3 e3) (.int .i64 (Hst.resizeS s p).2.2)
    have V3 : Hid (Var3 v3 w3.heap.size (.slice a3 n3 c3) (.slice d3 m3 e3) (.int .i64 (Hst.resizeS s p).2.2)) := by rw [← hv3]; exact var3_new _ _ _ _ _
    have HZ3 : Hid _ := zv3
    clear zv3
    have HA3 : Hid _ := hA3
    clear hA3
    have HW3 : Hid _ := hW3
    clear hW3
    have HN3 : Hid _ := hn3
    clear hn3
    have HM3 : Hid _ := hm3
    clear hm3
    have HR3 : Hid _ := hr3
    clear hr3
    clear X1 p10 p11 p12
    rw [HN.out] at HN3 HM3
    obtain rfl : n3 = 0 := HN3.out.symm
    obtain rfl : m3 = 0 := HM3.out.symm
    go_wp2_with fail
    refine (num_u _ _).mono ?_
    rintro e w99 ⟨rfl, rfl⟩
    have X2 : Hid _ := V3.out
    have p20 := X2.out.c0
    have p21 := X2.out.c1
    have p22 := X2.out.c2
    go_wp2
    go_ret
    exact ⟨rfl, (on (on (on (on bvs b1) b2) b3) bv3)⟩

set_option maxRecDepth 100000 in
theorem hlengths_lifted (os : Os) (started : os.Started) (H : Type) (enc : TypeId × Value → H) :
    ReturnsInHanded {} Try.checked os 3 .any (Rows.hostLengthsSpec.pre6 enc Try.prog Try.f3 Rows.hostLengthsRow.domain false) (Rows.hostLengthsSpec.post enc Try.prog Try.f3 false true false false) := by
  refine returnsInHanded_of_change_sized (C := Try.checked) own started (by kernel_rfl) Try.func3
    (ChangeSpec.witness6 (enc := enc) (C := Try.checked) false ⟨#[], #[.agg #[.slice none 0 0, .slice none 0 0, .int .i64 0], .int .i64 0, .int .i64 0], []⟩ 8 (by kernel_rfl) (by kernel_rfl) (by kernel_rfl) (by kernel_rfl)) ?_
  intro W base args ds gs before hval0 hW _ hsz0 _
  have hsz : (DataW.weightsEach Try.prog (Try.f3.params.toList ++ Rows.hostLengthsSpec.plain.varTypes Try.prog) (ds ++ gs)).all (· ≤ reachBytes) = true := hsz0
  clear hsz0
  have hval : ∀ (j : Nat) t v, Try.f3.params[j]? = some t → args[j]? = some v → Value.okWide Try.prog W .any base t v := hval0
  have hW' := hW
  obtain ⟨p, q, hA0, hV, rfl, hfz, hnd⟩ := hW
  have hA : DataW.TrodAll enc Try.prog W 0 (fun _ => true) true Try.f3.params.toList args.toList ds p := hA0
  rw [Try.params3] at hA hval hsz
  obtain ⟨v0, vs0, d0, ds0, p0, q0, hargs, rfl, rfl, h0, r0⟩ := trodAll_cons hA
  obtain ⟨v1, vs1, d1, ds1, p1, q1, rfl, rfl, rfl, h1, r1⟩ := trodAll_cons r0
  obtain ⟨v2, vs2, d2, ds2, p2, q2, rfl, rfl, rfl, h2, r2⟩ := trodAll_cons r1
  obtain ⟨rfl, rfl, rfl⟩ := trodAll_nil r2
  obtain rfl : args = #[v0, v1, v2] := by cases args; simp_all
  obtain ⟨rfl, rfl⟩ := trodVars_none hV
  obtain ⟨c0, rfl, -⟩ := okWide_struct Try.underlying25 (hval 0 25 v0 rfl rfl)
  have k0 := h0
  have lt0 : ∀ x ∈ p0, x.block < W.heap.size := by obtain ⟨m, hm⟩ := k0; exact DataW.trod_lt m _ _ _ hm
  obtain ⟨x0, hx0⟩ := opens_refHost.arg h0 hsz (j := 0) rfl rfl
  obtain ⟨a1, rfl, rfl, rfl, w1⟩ := open_int Try.underlying3 (hval 1 3 v1 rfl rfl) h1
  have i1 := bounds_i64 w1
  obtain ⟨a2, rfl, rfl, rfl, w2⟩ := open_int Try.underlying3 (hval 2 3 v2 rfl rfl) h2
  have i2 := bounds_i64 w2
  clear hA0 hval0
  refine (hlengths_walk c0.toList x0 a1 a2 W hx0 (by omega) (by omega) (by omega) (by omega)).mono fun e W' ⟨he, bel⟩ => ?_
  subst he
  exact ⟨_, rfl, _, _, _, [], _, [], hW', trodAll_mk1 (shut_bool Try.underlying4 _), (trodAll_cons_mk (Below.trod laidOut (by kernel_rfl) (of_decide_eq_true (by kernel_rfl)) k0 bel lt0) (trodAll_cons_mk (shut_int Try.underlying3 w1) (trodAll_cons_mk (shut_int Try.underlying3 w2) trodAll_mk0))), rfl, bel.frame _, fun h => by cases h⟩

theorem hostLengths_holds : Rows.HostLengthsSaid :=
  OpenClaim.holds_of_wide 3 Try.f3 rfl rfl rfl rfl rfl rfl rfl ⟨rfl, rfl, rfl, rfl, rfl⟩ rfl rfl rfl rfl rfl (by kernel_rfl) Try.func3 (by kernel_rfl)
    (of_decide_eq_true (by kernel_rfl)) (by unfold Func.isWrapper; first | (rw [if_pos (by decide +kernel)]; kernel_rfl) | (rw [if_neg (by decide +kernel)]; exact ⟨rfl, rfl⟩))
    (fun os started H enc _ => hlengths_lifted os started H enc)

end Go.Proofs.Ytckcicomkapdeab
