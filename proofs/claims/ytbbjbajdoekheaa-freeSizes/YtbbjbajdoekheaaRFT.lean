/-
  The document's own Take and Free, at whatever state and span. Conditions: those that each contract names.
-/
import Derived.Test.YtbbjbajdoekheaaRFC
import Derived.Test.YtbbjbajdoekheaaRFX
import Derived.Test.YtbbjbajdoekheaaFRet
import Derived.Test.YtbbjbajdoekheaaFSaid
namespace Go.Proofs.Ytbbjbajdoekheaa
open Go.RowKit
set_option linter.unusedVariables false

theorem OwnS.keptR {e : TypeId} {w w' : World} {base b : Nat} {v : Value} {l : List Spn} (h : OwnS e w base v l) (k : Kept (· ≠ b) w w') (hb : b < base) : OwnS e w' base v l :=
  h.keep1 fun g eg => k.block g (by have := (h.row.lt g eg).1; omega)

set_option maxRecDepth 20000 in
set_option maxHeartbeats 4000000 in
theorem refTake_u (w : World) (P : Nat → Prop) (z : Int) (a : Option Addr) (n c : Nat) (l : List Spn) (hL : rSpns.rd w P [.slice a n c] l) (x : Spn) (hx : In2 x) :
    Calls Try.prog 15 #[.agg #[.int .i64 z, .slice a n c], .agg #[.int .i64 x.1, .int .i64 x.2]] w fun e w' => ∃ v, e = .returned (.tuple #[.agg #[.int .i64 (Fr.takeZ z l x), v], .int .i64 (Fr.takeE z l x)]) ∧ OwnS 26 w' w.heap.size v (Fr.takeL z l x) ∧ Below w.heap.size w w' := by
  have HR : Hid _ := hL
  have HX : Hid (In2 x) := hx
  have HN : Hid (l.length = n) := (rList_len hL).1
  obtain ⟨w0, hw0, V0, b0, z0⟩ := boxedRow w 24 [.int .i64 z, .slice a n c]
  obtain ⟨w1, hw1, V1, b1, z1⟩ := boxedRow w0 26 [.int .i64 x.1, .int .i64 x.2]
  obtain ⟨w2, hw2, V2, b2, z2⟩ := boxedRow w1 24 [.int .i64 0, .slice none 0 0]
  rw [z0] at V1 z1
  rw [z1] at V2
  have B2 : Hid (Below w.heap.size w w2) := on (on b0 b1) b2
  have HV0 : Hid (Row w2 w.heap.size 24 [.int .i64 z, .slice a n c]) := (V0.below b1).below b2
  have HV1 : Hid (Row w2 (w.heap.size + 1) 26 [.int .i64 x.1, .int .i64 x.2]) := V1.below b2
  have HV2 : Hid (Row w2 (w.heap.size + 1 + 1) 24 [.int .i64 0, .slice none 0 0]) := V2
  obtain ⟨d0, d1⟩ := HV0.out.two
  clear hL hx V0 V1 V2 b0 b1 b2 z2
  cases ho : Fr.okB z l
  · have HC : Hid (Fr.checkE z l = 9) := Fr.checkE_no ho
    obtain ⟨t1, t2, t3⟩ := Fr.take_not (x := x) (q := 9) (by unfold Fr.spanE; rw [ho]; rfl) (by decide)
    rw [t1, t2, t3]
    clear t1 t2 t3 ho
    go_enter Try.func15, Try.ntmps15
    go_wp2_with fail
    refine (refCheck_u _ P z a n c l (Rep.below HR.out B2.out) _ HC.out).mono ?_
    rintro e w3 ⟨rfl, b3⟩
    have B3 : Hid (Below w.heap.size w w3) := on B2.out b3
    have HA0 : Hid (Row w3 w.heap.size 24 [.int .i64 z, .slice a n c]) := HV0.out.below b3
    have HA1 : Hid (Row w3 (w.heap.size + 1) 26 [.int .i64 x.1, .int .i64 x.2]) := HV1.out.below b3
    have HA2 : Hid (Row w3 (w.heap.size + 1 + 1) 24 [.int .i64 0, .slice none 0 0]) := HV2.out.below b3
    clear b3 d0 d1
    obtain ⟨r0, r1⟩ := HA2.out.two
    have r2 := HA2.out.frozen 0
    have r3 := HA2.out.frozen 1
    go_wp2
    refine st_ret HA2.out B3.out (by omega) _ _ _ rfl rfl rfl Try.underlying24 rfl (by kernel_rfl) ?_
    intro w' K' B'
    exact ⟨_, rfl, OwnS.nil _ _ _, B'⟩
  · have HC : Hid (Fr.checkE z l = 0) := Fr.checkE_ok ho
    have HO : Hid (Fr.Ok z l) := Fr.ok_iff.1 ho
    have hz0 := HO.out.low
    have hz1 := HO.out.high
    cases hi : Fr.inB z x
    · have HI : Hid (Fr.inB z x = false) := hi
      obtain ⟨t1, t2, t3⟩ := Fr.take_not (x := x) (q := 4) (by unfold Fr.spanE; rw [ho, hi]; rfl) (by decide)
      rw [t1, t2, t3]
      clear t1 t2 t3 ho hi
      go_enter Try.func15, Try.ntmps15
      go_wp2_with fail
      refine (refCheck_u _ P z a n c l (Rep.below HR.out B2.out) _ HC.out).mono ?_
      rintro e w3 ⟨rfl, b3⟩
      have B3 : Hid (Below w.heap.size w w3) := on B2.out b3
      have HA0 : Hid (Row w3 w.heap.size 24 [.int .i64 z, .slice a n c]) := HV0.out.below b3
      have HA1 : Hid (Row w3 (w.heap.size + 1) 26 [.int .i64 x.1, .int .i64 x.2]) := HV1.out.below b3
      have HA2 : Hid (Row w3 (w.heap.size + 1 + 1) 24 [.int .i64 0, .slice none 0 0]) := HV2.out.below b3
      clear b3 d0 d1
      obtain ⟨e0, e1⟩ := HA0.out.two
      obtain ⟨e2, e3⟩ := HA1.out.two
      go_wp2_with fail
      refine (inside_u _ x z HX.out hz0 hz1 _ HI.out).mono ?_
      rintro e w4 ⟨rfl, b4⟩
      have B4 : Hid (Below w.heap.size w w4) := on B3.out b4
      have HB0 : Hid (Row w4 w.heap.size 24 [.int .i64 z, .slice a n c]) := HA0.out.below b4
      have HB1 : Hid (Row w4 (w.heap.size + 1) 26 [.int .i64 x.1, .int .i64 x.2]) := HA1.out.below b4
      have HB2 : Hid (Row w4 (w.heap.size + 1 + 1) 24 [.int .i64 0, .slice none 0 0]) := HA2.out.below b4
      clear b4 e0 e1 e2 e3
      obtain ⟨r0, r1⟩ := HB2.out.two
      have r2 := HB2.out.frozen 0
      have r3 := HB2.out.frozen 1
      go_wp2
      refine st_ret HB2.out B4.out (by omega) _ _ _ rfl rfl rfl Try.underlying24 rfl (by kernel_rfl) ?_
      intro w' K' B'
      exact ⟨_, rfl, OwnS.nil _ _ _, B'⟩
    · have HI : Hid (Fr.inB z x = true) := hi
      have HIn : Hid (Fr.Inside x z) := Fr.inB_iff.1 hi
      have HXM : Hid (Fr.Mid x) := by unfold Hid Fr.Mid; have h := HIn.out; unfold Fr.Inside at h; omega
      have HXE : Hid (In64 (x.1 + x.2)) := by unfold Hid In64; have h := HIn.out; unfold Fr.Inside at h; omega
      have HSaid : Hid _ := Fr.take_said (z := z) (l := l) (x := x) (by unfold Fr.spanE; rw [ho, hi]; rfl)
      have hn : n ≤ 1024 := by have h := HO.out.len; rw [HN.out] at h; exact h
      clear ho hi
      cases hw' : Fr.whole l x
      · have HW : Hid (Fr.whole l x = false) := hw'
        clear hw'
        obtain ⟨t1, t2, t3⟩ := HSaid.out.2 HW.out
        rw [t1, t2, t3]
        clear t1 t2 t3
        go_enter Try.func15, Try.ntmps15
        go_wp2_with fail
        refine (refCheck_u _ P z a n c l (Rep.below HR.out B2.out) _ HC.out).mono ?_
        rintro e w3 ⟨rfl, b3⟩
        have B3 : Hid (Below w.heap.size w w3) := on B2.out b3
        have HA0 : Hid (Row w3 w.heap.size 24 [.int .i64 z, .slice a n c]) := HV0.out.below b3
        have HA1 : Hid (Row w3 (w.heap.size + 1) 26 [.int .i64 x.1, .int .i64 x.2]) := HV1.out.below b3
        have HA2 : Hid (Row w3 (w.heap.size + 1 + 1) 24 [.int .i64 0, .slice none 0 0]) := HV2.out.below b3
        clear b3 d0 d1
        obtain ⟨e0, e1⟩ := HA0.out.two
        obtain ⟨e2, e3⟩ := HA1.out.two
        go_wp2_with fail
        refine (inside_u _ x z HX.out hz0 hz1 _ HI.out).mono ?_
        rintro e w4 ⟨rfl, b4⟩
        have B4 : Hid (Below w.heap.size w w4) := on B3.out b4
        have HB0 : Hid (Row w4 w.heap.size 24 [.int .i64 z, .slice a n c]) := HA0.out.below b4
        have HB1 : Hid (Row w4 (w.heap.size + 1) 26 [.int .i64 x.1, .int .i64 x.2]) := HA1.out.below b4
        have HB2 : Hid (Row w4 (w.heap.size + 1 + 1) 24 [.int .i64 0, .slice none 0 0]) := HA2.out.below b4
        clear b4 e0 e1 e2 e3
        obtain ⟨e0, e1⟩ := HB0.out.two
        obtain ⟨e2, e3⟩ := HB1.out.two
        go_wp2_with fail
        refine (whole_u _ P z a n c l (Rep.below HR.out B4.out) HO.out.mid x HXE.out _ HW.out).mono ?_
        rintro e w5 ⟨rfl, b5⟩
        have B5 : Hid (Below w.heap.size w w5) := on B4.out b5
        have HC0 : Hid (Row w5 w.heap.size 24 [.int .i64 z, .slice a n c]) := HB0.out.below b5
        have HC1 : Hid (Row w5 (w.heap.size + 1) 26 [.int .i64 x.1, .int .i64 x.2]) := HB1.out.below b5
        have HC2 : Hid (Row w5 (w.heap.size + 1 + 1) 24 [.int .i64 0, .slice none 0 0]) := HB2.out.below b5
        clear b5 e0 e1 e2 e3
        obtain ⟨r0, r1⟩ := HC2.out.two
        have r2 := HC2.out.frozen 0
        have r3 := HC2.out.frozen 1
        go_wp2
        refine st_ret HC2.out B5.out (by omega) _ _ _ rfl rfl rfl Try.underlying24 rfl (by kernel_rfl) ?_
        intro w' K' B'
        exact ⟨_, rfl, OwnS.nil _ _ _, B'⟩
      · have HW : Hid (Fr.whole l x = true) := hw'
        clear hw'
        obtain ⟨t1, t2, t3⟩ := HSaid.out.1 HW.out
        rw [t1, t2, t3]
        clear t1 t2 t3
        by_cases hc : (Fr.without l x).length ≤ 1024
        · have e1 : Fr.manyE (Fr.without l x) = 0 := if_pos hc
          have e2 : Fr.manyL (Fr.without l x) = Fr.without l x := if_pos hc
          have e3 : Fr.manyZ z (Fr.without l x) = z := if_pos hc
          rw [e1, e2, e3]
          clear e1 e2 e3
          go_enter Try.func15, Try.ntmps15
          go_wp2_with fail
          refine (refCheck_u _ P z a n c l (Rep.below HR.out B2.out) _ HC.out).mono ?_
          rintro e w3 ⟨rfl, b3⟩
          have B3 : Hid (Below w.heap.size w w3) := on B2.out b3
          have HA0 : Hid (Row w3 w.heap.size 24 [.int .i64 z, .slice a n c]) := HV0.out.below b3
          have HA1 : Hid (Row w3 (w.heap.size + 1) 26 [.int .i64 x.1, .int .i64 x.2]) := HV1.out.below b3
          have HA2 : Hid (Row w3 (w.heap.size + 1 + 1) 24 [.int .i64 0, .slice none 0 0]) := HV2.out.below b3
          clear b3 d0 d1
          obtain ⟨e0, e1⟩ := HA0.out.two
          obtain ⟨e2, e3⟩ := HA1.out.two
          go_wp2_with fail
          refine (inside_u _ x z HX.out hz0 hz1 _ HI.out).mono ?_
          rintro e w4 ⟨rfl, b4⟩
          have B4 : Hid (Below w.heap.size w w4) := on B3.out b4
          have HB0 : Hid (Row w4 w.heap.size 24 [.int .i64 z, .slice a n c]) := HA0.out.below b4
          have HB1 : Hid (Row w4 (w.heap.size + 1) 26 [.int .i64 x.1, .int .i64 x.2]) := HA1.out.below b4
          have HB2 : Hid (Row w4 (w.heap.size + 1 + 1) 24 [.int .i64 0, .slice none 0 0]) := HA2.out.below b4
          clear b4 e0 e1 e2 e3
          obtain ⟨e0, e1⟩ := HB0.out.two
          obtain ⟨e2, e3⟩ := HB1.out.two
          go_wp2_with fail
          refine (whole_u _ P z a n c l (Rep.below HR.out B4.out) HO.out.mid x HXE.out _ HW.out).mono ?_
          rintro e w5 ⟨rfl, b5⟩
          have B5 : Hid (Below w.heap.size w w5) := on B4.out b5
          have HC0 : Hid (Row w5 w.heap.size 24 [.int .i64 z, .slice a n c]) := HB0.out.below b5
          have HC1 : Hid (Row w5 (w.heap.size + 1) 26 [.int .i64 x.1, .int .i64 x.2]) := HB1.out.below b5
          have HC2 : Hid (Row w5 (w.heap.size + 1 + 1) 24 [.int .i64 0, .slice none 0 0]) := HB2.out.below b5
          clear b5 e0 e1 e2 e3
          obtain ⟨e0, e1⟩ := HC0.out.two
          obtain ⟨e2, e3⟩ := HC1.out.two
          go_wp2_with fail
          refine (without_u _ P a n c l (Rep.below HR.out B5.out) HO.out.mid (by omega) x HXM.out).mono ?_
          rintro e w6 ⟨v6, rfl, ho6, b6⟩
          have B6 : Hid (Below w.heap.size w w6) := on B5.out b6
          have HD0 : Hid (Row w6 w.heap.size 24 [.int .i64 z, .slice a n c]) := HC0.out.below b6
          have HD2 : Hid (Row w6 (w.heap.size + 1 + 1) 24 [.int .i64 0, .slice none 0 0]) := HC2.out.below b6
          have HO6 : Hid (OwnS _ _ _ _ _) := ho6
          have HZ6 : Hid (w.heap.size + 1 + 1 < w5.heap.size) := HC2.out.lt
          obtain ⟨a6, c6, hv6, -, -⟩ := ho6.slice
          subst hv6
          clear ho6 b6 e0 e1 e2 e3
          obtain ⟨e0, e1⟩ := HD0.out.two
          obtain ⟨r0, r1⟩ := HD2.out.two
          have r2 := HD2.out.frozen 0
          have r3 := HD2.out.frozen 1
          go_wp2
          refine st_ret HD2.out B6.out (by omega) _ _ _ rfl rfl rfl Try.underlying24 rfl (by kernel_rfl) ?_
          intro w' K' B'
          exact ⟨_, rfl, (HO6.out.keptR K' HZ6.out).mono B5.out.size, B'⟩
        · have e1 : Fr.manyE (Fr.without l x) = 51 := if_neg hc
          have e2 : Fr.manyL (Fr.without l x) = [] := if_neg hc
          have e3 : Fr.manyZ z (Fr.without l x) = 0 := if_neg hc
          rw [e1, e2, e3]
          clear e1 e2 e3
          go_enter Try.func15, Try.ntmps15
          go_wp2_with fail
          refine (refCheck_u _ P z a n c l (Rep.below HR.out B2.out) _ HC.out).mono ?_
          rintro e w3 ⟨rfl, b3⟩
          have B3 : Hid (Below w.heap.size w w3) := on B2.out b3
          have HA0 : Hid (Row w3 w.heap.size 24 [.int .i64 z, .slice a n c]) := HV0.out.below b3
          have HA1 : Hid (Row w3 (w.heap.size + 1) 26 [.int .i64 x.1, .int .i64 x.2]) := HV1.out.below b3
          have HA2 : Hid (Row w3 (w.heap.size + 1 + 1) 24 [.int .i64 0, .slice none 0 0]) := HV2.out.below b3
          clear b3 d0 d1
          obtain ⟨e0, e1⟩ := HA0.out.two
          obtain ⟨e2, e3⟩ := HA1.out.two
          go_wp2_with fail
          refine (inside_u _ x z HX.out hz0 hz1 _ HI.out).mono ?_
          rintro e w4 ⟨rfl, b4⟩
          have B4 : Hid (Below w.heap.size w w4) := on B3.out b4
          have HB0 : Hid (Row w4 w.heap.size 24 [.int .i64 z, .slice a n c]) := HA0.out.below b4
          have HB1 : Hid (Row w4 (w.heap.size + 1) 26 [.int .i64 x.1, .int .i64 x.2]) := HA1.out.below b4
          have HB2 : Hid (Row w4 (w.heap.size + 1 + 1) 24 [.int .i64 0, .slice none 0 0]) := HA2.out.below b4
          clear b4 e0 e1 e2 e3
          obtain ⟨e0, e1⟩ := HB0.out.two
          obtain ⟨e2, e3⟩ := HB1.out.two
          go_wp2_with fail
          refine (whole_u _ P z a n c l (Rep.below HR.out B4.out) HO.out.mid x HXE.out _ HW.out).mono ?_
          rintro e w5 ⟨rfl, b5⟩
          have B5 : Hid (Below w.heap.size w w5) := on B4.out b5
          have HC0 : Hid (Row w5 w.heap.size 24 [.int .i64 z, .slice a n c]) := HB0.out.below b5
          have HC1 : Hid (Row w5 (w.heap.size + 1) 26 [.int .i64 x.1, .int .i64 x.2]) := HB1.out.below b5
          have HC2 : Hid (Row w5 (w.heap.size + 1 + 1) 24 [.int .i64 0, .slice none 0 0]) := HB2.out.below b5
          clear b5 e0 e1 e2 e3
          obtain ⟨e0, e1⟩ := HC0.out.two
          obtain ⟨e2, e3⟩ := HC1.out.two
          go_wp2_with fail
          refine (without_u _ P a n c l (Rep.below HR.out B5.out) HO.out.mid (by omega) x HXM.out).mono ?_
          rintro e w6 ⟨v6, rfl, ho6, b6⟩
          have B6 : Hid (Below w.heap.size w w6) := on B5.out b6
          have HD0 : Hid (Row w6 w.heap.size 24 [.int .i64 z, .slice a n c]) := HC0.out.below b6
          have HD2 : Hid (Row w6 (w.heap.size + 1 + 1) 24 [.int .i64 0, .slice none 0 0]) := HC2.out.below b6
          have HO6 : Hid (OwnS _ _ _ _ _) := ho6
          have HZ6 : Hid (w.heap.size + 1 + 1 < w5.heap.size) := HC2.out.lt
          obtain ⟨a6, c6, hv6, -, -⟩ := ho6.slice
          subst hv6
          clear ho6 b6 e0 e1 e2 e3
          obtain ⟨e0, e1⟩ := HD0.out.two
          obtain ⟨r0, r1⟩ := HD2.out.two
          have r2 := HD2.out.frozen 0
          have r3 := HD2.out.frozen 1
          go_wp2
          refine st_ret HD2.out B6.out (by omega) _ _ _ rfl rfl rfl Try.underlying24 rfl (by kernel_rfl) ?_
          intro w' K' B'
          exact ⟨_, rfl, OwnS.nil _ _ _, B'⟩

set_option maxRecDepth 20000 in
set_option maxHeartbeats 4000000 in
theorem refFree_u (w : World) (P : Nat → Prop) (z : Int) (a : Option Addr) (n c : Nat) (l : List Spn) (hL : rSpns.rd w P [.slice a n c] l) (x : Spn) (hx : In2 x) :
    Calls Try.prog 17 #[.agg #[.int .i64 z, .slice a n c], .agg #[.int .i64 x.1, .int .i64 x.2]] w fun e w' => ∃ v, e = .returned (.tuple #[.agg #[.int .i64 (Fr.freeZ z l x), v], .int .i64 (Fr.freeE z l x)]) ∧ OwnS 26 w' w.heap.size v (Fr.freeL z l x) ∧ Below w.heap.size w w' := by
  have HR : Hid _ := hL
  have HX : Hid (In2 x) := hx
  have HN : Hid (l.length = n) := (rList_len hL).1
  obtain ⟨w0, hw0, V0, b0, z0⟩ := boxedRow w 24 [.int .i64 z, .slice a n c]
  obtain ⟨w1, hw1, V1, b1, z1⟩ := boxedRow w0 26 [.int .i64 x.1, .int .i64 x.2]
  obtain ⟨w2, hw2, V2, b2, z2⟩ := boxedRow w1 24 [.int .i64 0, .slice none 0 0]
  rw [z0] at V1 z1
  rw [z1] at V2
  have B2 : Hid (Below w.heap.size w w2) := on (on b0 b1) b2
  have HV0 : Hid (Row w2 w.heap.size 24 [.int .i64 z, .slice a n c]) := (V0.below b1).below b2
  have HV1 : Hid (Row w2 (w.heap.size + 1) 26 [.int .i64 x.1, .int .i64 x.2]) := V1.below b2
  have HV2 : Hid (Row w2 (w.heap.size + 1 + 1) 24 [.int .i64 0, .slice none 0 0]) := V2
  obtain ⟨d0, d1⟩ := HV0.out.two
  clear hL hx V0 V1 V2 b0 b1 b2 z2
  cases ho : Fr.okB z l
  · have HC : Hid (Fr.checkE z l = 9) := Fr.checkE_no ho
    obtain ⟨t1, t2, t3⟩ := Fr.free_not (x := x) (q := 9) (by unfold Fr.spanE; rw [ho]; rfl) (by decide)
    rw [t1, t2, t3]
    clear t1 t2 t3 ho
    go_enter Try.func17, Try.ntmps17
    go_wp2_with fail
    refine (refCheck_u _ P z a n c l (Rep.below HR.out B2.out) _ HC.out).mono ?_
    rintro e w3 ⟨rfl, b3⟩
    have B3 : Hid (Below w.heap.size w w3) := on B2.out b3
    have HA0 : Hid (Row w3 w.heap.size 24 [.int .i64 z, .slice a n c]) := HV0.out.below b3
    have HA1 : Hid (Row w3 (w.heap.size + 1) 26 [.int .i64 x.1, .int .i64 x.2]) := HV1.out.below b3
    have HA2 : Hid (Row w3 (w.heap.size + 1 + 1) 24 [.int .i64 0, .slice none 0 0]) := HV2.out.below b3
    clear b3 d0 d1
    obtain ⟨r0, r1⟩ := HA2.out.two
    have r2 := HA2.out.frozen 0
    have r3 := HA2.out.frozen 1
    go_wp2
    refine st_ret HA2.out B3.out (by omega) _ _ _ rfl rfl rfl Try.underlying24 rfl (by kernel_rfl) ?_
    intro w' K' B'
    exact ⟨_, rfl, OwnS.nil _ _ _, B'⟩
  · have HC : Hid (Fr.checkE z l = 0) := Fr.checkE_ok ho
    have HO : Hid (Fr.Ok z l) := Fr.ok_iff.1 ho
    have hz0 := HO.out.low
    have hz1 := HO.out.high
    cases hi : Fr.inB z x
    · have HI : Hid (Fr.inB z x = false) := hi
      obtain ⟨t1, t2, t3⟩ := Fr.free_not (x := x) (q := 4) (by unfold Fr.spanE; rw [ho, hi]; rfl) (by decide)
      rw [t1, t2, t3]
      clear t1 t2 t3 ho hi
      go_enter Try.func17, Try.ntmps17
      go_wp2_with fail
      refine (refCheck_u _ P z a n c l (Rep.below HR.out B2.out) _ HC.out).mono ?_
      rintro e w3 ⟨rfl, b3⟩
      have B3 : Hid (Below w.heap.size w w3) := on B2.out b3
      have HA0 : Hid (Row w3 w.heap.size 24 [.int .i64 z, .slice a n c]) := HV0.out.below b3
      have HA1 : Hid (Row w3 (w.heap.size + 1) 26 [.int .i64 x.1, .int .i64 x.2]) := HV1.out.below b3
      have HA2 : Hid (Row w3 (w.heap.size + 1 + 1) 24 [.int .i64 0, .slice none 0 0]) := HV2.out.below b3
      clear b3 d0 d1
      obtain ⟨e0, e1⟩ := HA0.out.two
      obtain ⟨e2, e3⟩ := HA1.out.two
      go_wp2_with fail
      refine (inside_u _ x z HX.out hz0 hz1 _ HI.out).mono ?_
      rintro e w4 ⟨rfl, b4⟩
      have B4 : Hid (Below w.heap.size w w4) := on B3.out b4
      have HB0 : Hid (Row w4 w.heap.size 24 [.int .i64 z, .slice a n c]) := HA0.out.below b4
      have HB1 : Hid (Row w4 (w.heap.size + 1) 26 [.int .i64 x.1, .int .i64 x.2]) := HA1.out.below b4
      have HB2 : Hid (Row w4 (w.heap.size + 1 + 1) 24 [.int .i64 0, .slice none 0 0]) := HA2.out.below b4
      clear b4 e0 e1 e2 e3
      obtain ⟨r0, r1⟩ := HB2.out.two
      have r2 := HB2.out.frozen 0
      have r3 := HB2.out.frozen 1
      go_wp2
      refine st_ret HB2.out B4.out (by omega) _ _ _ rfl rfl rfl Try.underlying24 rfl (by kernel_rfl) ?_
      intro w' K' B'
      exact ⟨_, rfl, OwnS.nil _ _ _, B'⟩
    · have HI : Hid (Fr.inB z x = true) := hi
      have HIn : Hid (Fr.Inside x z) := Fr.inB_iff.1 hi
      have HXM : Hid (Fr.Mid x) := by unfold Hid Fr.Mid; have h := HIn.out; unfold Fr.Inside at h; omega
      have HXE : Hid (In64 (x.1 + x.2)) := by unfold Hid In64; have h := HIn.out; unfold Fr.Inside at h; omega
      have HSaid : Hid _ := Fr.free_said (z := z) (l := l) (x := x) (by unfold Fr.spanE; rw [ho, hi]; rfl)
      have hn : n ≤ 1024 := by have h := HO.out.len; rw [HN.out] at h; exact h
      clear ho hi
      cases hw' : Fr.some_ l x
      · have HW : Hid (Fr.some_ l x = false) := hw'
        clear hw'
        obtain ⟨t1, t2, t3⟩ := HSaid.out.1 HW.out
        rw [t1, t2, t3]
        clear t1 t2 t3
        by_cases hc : (Fr.withR x false l).length ≤ 1024
        · have e1 : Fr.manyE (Fr.withR x false l) = 0 := if_pos hc
          have e2 : Fr.manyL (Fr.withR x false l) = Fr.withR x false l := if_pos hc
          have e3 : Fr.manyZ z (Fr.withR x false l) = z := if_pos hc
          rw [e1, e2, e3]
          clear e1 e2 e3
          go_enter Try.func17, Try.ntmps17
          go_wp2_with fail
          refine (refCheck_u _ P z a n c l (Rep.below HR.out B2.out) _ HC.out).mono ?_
          rintro e w3 ⟨rfl, b3⟩
          have B3 : Hid (Below w.heap.size w w3) := on B2.out b3
          have HA0 : Hid (Row w3 w.heap.size 24 [.int .i64 z, .slice a n c]) := HV0.out.below b3
          have HA1 : Hid (Row w3 (w.heap.size + 1) 26 [.int .i64 x.1, .int .i64 x.2]) := HV1.out.below b3
          have HA2 : Hid (Row w3 (w.heap.size + 1 + 1) 24 [.int .i64 0, .slice none 0 0]) := HV2.out.below b3
          clear b3 d0 d1
          obtain ⟨e0, e1⟩ := HA0.out.two
          obtain ⟨e2, e3⟩ := HA1.out.two
          go_wp2_with fail
          refine (inside_u _ x z HX.out hz0 hz1 _ HI.out).mono ?_
          rintro e w4 ⟨rfl, b4⟩
          have B4 : Hid (Below w.heap.size w w4) := on B3.out b4
          have HB0 : Hid (Row w4 w.heap.size 24 [.int .i64 z, .slice a n c]) := HA0.out.below b4
          have HB1 : Hid (Row w4 (w.heap.size + 1) 26 [.int .i64 x.1, .int .i64 x.2]) := HA1.out.below b4
          have HB2 : Hid (Row w4 (w.heap.size + 1 + 1) 24 [.int .i64 0, .slice none 0 0]) := HA2.out.below b4
          clear b4 e0 e1 e2 e3
          obtain ⟨e0, e1⟩ := HB0.out.two
          obtain ⟨e2, e3⟩ := HB1.out.two
          go_wp2_with fail
          refine (some_u _ P z a n c l (Rep.below HR.out B4.out) HO.out.mid x HXE.out _ HW.out).mono ?_
          rintro e w5 ⟨rfl, b5⟩
          have B5 : Hid (Below w.heap.size w w5) := on B4.out b5
          have HC0 : Hid (Row w5 w.heap.size 24 [.int .i64 z, .slice a n c]) := HB0.out.below b5
          have HC1 : Hid (Row w5 (w.heap.size + 1) 26 [.int .i64 x.1, .int .i64 x.2]) := HB1.out.below b5
          have HC2 : Hid (Row w5 (w.heap.size + 1 + 1) 24 [.int .i64 0, .slice none 0 0]) := HB2.out.below b5
          clear b5 e0 e1 e2 e3
          obtain ⟨e0, e1⟩ := HC0.out.two
          obtain ⟨e2, e3⟩ := HC1.out.two
          go_wp2_with fail
          refine (with_u _ P a n c l (Rep.below HR.out B5.out) HO.out.mid (by omega) x HXM.out).mono ?_
          rintro e w6 ⟨v6, rfl, ho6, b6⟩
          have B6 : Hid (Below w.heap.size w w6) := on B5.out b6
          have HD0 : Hid (Row w6 w.heap.size 24 [.int .i64 z, .slice a n c]) := HC0.out.below b6
          have HD2 : Hid (Row w6 (w.heap.size + 1 + 1) 24 [.int .i64 0, .slice none 0 0]) := HC2.out.below b6
          have HO6 : Hid (OwnS _ _ _ _ _) := ho6
          have HZ6 : Hid (w.heap.size + 1 + 1 < w5.heap.size) := HC2.out.lt
          obtain ⟨a6, c6, hv6, -, -⟩ := ho6.slice
          subst hv6
          clear ho6 b6 e0 e1 e2 e3
          obtain ⟨e0, e1⟩ := HD0.out.two
          obtain ⟨r0, r1⟩ := HD2.out.two
          have r2 := HD2.out.frozen 0
          have r3 := HD2.out.frozen 1
          go_wp2
          refine st_ret HD2.out B6.out (by omega) _ _ _ rfl rfl rfl Try.underlying24 rfl (by kernel_rfl) ?_
          intro w' K' B'
          exact ⟨_, rfl, (HO6.out.keptR K' HZ6.out).mono B5.out.size, B'⟩
        · have e1 : Fr.manyE (Fr.withR x false l) = 51 := if_neg hc
          have e2 : Fr.manyL (Fr.withR x false l) = [] := if_neg hc
          have e3 : Fr.manyZ z (Fr.withR x false l) = 0 := if_neg hc
          rw [e1, e2, e3]
          clear e1 e2 e3
          go_enter Try.func17, Try.ntmps17
          go_wp2_with fail
          refine (refCheck_u _ P z a n c l (Rep.below HR.out B2.out) _ HC.out).mono ?_
          rintro e w3 ⟨rfl, b3⟩
          have B3 : Hid (Below w.heap.size w w3) := on B2.out b3
          have HA0 : Hid (Row w3 w.heap.size 24 [.int .i64 z, .slice a n c]) := HV0.out.below b3
          have HA1 : Hid (Row w3 (w.heap.size + 1) 26 [.int .i64 x.1, .int .i64 x.2]) := HV1.out.below b3
          have HA2 : Hid (Row w3 (w.heap.size + 1 + 1) 24 [.int .i64 0, .slice none 0 0]) := HV2.out.below b3
          clear b3 d0 d1
          obtain ⟨e0, e1⟩ := HA0.out.two
          obtain ⟨e2, e3⟩ := HA1.out.two
          go_wp2_with fail
          refine (inside_u _ x z HX.out hz0 hz1 _ HI.out).mono ?_
          rintro e w4 ⟨rfl, b4⟩
          have B4 : Hid (Below w.heap.size w w4) := on B3.out b4
          have HB0 : Hid (Row w4 w.heap.size 24 [.int .i64 z, .slice a n c]) := HA0.out.below b4
          have HB1 : Hid (Row w4 (w.heap.size + 1) 26 [.int .i64 x.1, .int .i64 x.2]) := HA1.out.below b4
          have HB2 : Hid (Row w4 (w.heap.size + 1 + 1) 24 [.int .i64 0, .slice none 0 0]) := HA2.out.below b4
          clear b4 e0 e1 e2 e3
          obtain ⟨e0, e1⟩ := HB0.out.two
          obtain ⟨e2, e3⟩ := HB1.out.two
          go_wp2_with fail
          refine (some_u _ P z a n c l (Rep.below HR.out B4.out) HO.out.mid x HXE.out _ HW.out).mono ?_
          rintro e w5 ⟨rfl, b5⟩
          have B5 : Hid (Below w.heap.size w w5) := on B4.out b5
          have HC0 : Hid (Row w5 w.heap.size 24 [.int .i64 z, .slice a n c]) := HB0.out.below b5
          have HC1 : Hid (Row w5 (w.heap.size + 1) 26 [.int .i64 x.1, .int .i64 x.2]) := HB1.out.below b5
          have HC2 : Hid (Row w5 (w.heap.size + 1 + 1) 24 [.int .i64 0, .slice none 0 0]) := HB2.out.below b5
          clear b5 e0 e1 e2 e3
          obtain ⟨e0, e1⟩ := HC0.out.two
          obtain ⟨e2, e3⟩ := HC1.out.two
          go_wp2_with fail
          refine (with_u _ P a n c l (Rep.below HR.out B5.out) HO.out.mid (by omega) x HXM.out).mono ?_
          rintro e w6 ⟨v6, rfl, ho6, b6⟩
          have B6 : Hid (Below w.heap.size w w6) := on B5.out b6
          have HD0 : Hid (Row w6 w.heap.size 24 [.int .i64 z, .slice a n c]) := HC0.out.below b6
          have HD2 : Hid (Row w6 (w.heap.size + 1 + 1) 24 [.int .i64 0, .slice none 0 0]) := HC2.out.below b6
          have HO6 : Hid (OwnS _ _ _ _ _) := ho6
          have HZ6 : Hid (w.heap.size + 1 + 1 < w5.heap.size) := HC2.out.lt
          obtain ⟨a6, c6, hv6, -, -⟩ := ho6.slice
          subst hv6
          clear ho6 b6 e0 e1 e2 e3
          obtain ⟨e0, e1⟩ := HD0.out.two
          obtain ⟨r0, r1⟩ := HD2.out.two
          have r2 := HD2.out.frozen 0
          have r3 := HD2.out.frozen 1
          go_wp2
          refine st_ret HD2.out B6.out (by omega) _ _ _ rfl rfl rfl Try.underlying24 rfl (by kernel_rfl) ?_
          intro w' K' B'
          exact ⟨_, rfl, OwnS.nil _ _ _, B'⟩
      · have HW : Hid (Fr.some_ l x = true) := hw'
        clear hw'
        obtain ⟨t1, t2, t3⟩ := HSaid.out.2 HW.out
        rw [t1, t2, t3]
        clear t1 t2 t3
        go_enter Try.func17, Try.ntmps17
        go_wp2_with fail
        refine (refCheck_u _ P z a n c l (Rep.below HR.out B2.out) _ HC.out).mono ?_
        rintro e w3 ⟨rfl, b3⟩
        have B3 : Hid (Below w.heap.size w w3) := on B2.out b3
        have HA0 : Hid (Row w3 w.heap.size 24 [.int .i64 z, .slice a n c]) := HV0.out.below b3
        have HA1 : Hid (Row w3 (w.heap.size + 1) 26 [.int .i64 x.1, .int .i64 x.2]) := HV1.out.below b3
        have HA2 : Hid (Row w3 (w.heap.size + 1 + 1) 24 [.int .i64 0, .slice none 0 0]) := HV2.out.below b3
        clear b3 d0 d1
        obtain ⟨e0, e1⟩ := HA0.out.two
        obtain ⟨e2, e3⟩ := HA1.out.two
        go_wp2_with fail
        refine (inside_u _ x z HX.out hz0 hz1 _ HI.out).mono ?_
        rintro e w4 ⟨rfl, b4⟩
        have B4 : Hid (Below w.heap.size w w4) := on B3.out b4
        have HB0 : Hid (Row w4 w.heap.size 24 [.int .i64 z, .slice a n c]) := HA0.out.below b4
        have HB1 : Hid (Row w4 (w.heap.size + 1) 26 [.int .i64 x.1, .int .i64 x.2]) := HA1.out.below b4
        have HB2 : Hid (Row w4 (w.heap.size + 1 + 1) 24 [.int .i64 0, .slice none 0 0]) := HA2.out.below b4
        clear b4 e0 e1 e2 e3
        obtain ⟨e0, e1⟩ := HB0.out.two
        obtain ⟨e2, e3⟩ := HB1.out.two
        go_wp2_with fail
        refine (some_u _ P z a n c l (Rep.below HR.out B4.out) HO.out.mid x HXE.out _ HW.out).mono ?_
        rintro e w5 ⟨rfl, b5⟩
        have B5 : Hid (Below w.heap.size w w5) := on B4.out b5
        have HC0 : Hid (Row w5 w.heap.size 24 [.int .i64 z, .slice a n c]) := HB0.out.below b5
        have HC1 : Hid (Row w5 (w.heap.size + 1) 26 [.int .i64 x.1, .int .i64 x.2]) := HB1.out.below b5
        have HC2 : Hid (Row w5 (w.heap.size + 1 + 1) 24 [.int .i64 0, .slice none 0 0]) := HB2.out.below b5
        clear b5 e0 e1 e2 e3
        obtain ⟨r0, r1⟩ := HC2.out.two
        have r2 := HC2.out.frozen 0
        have r3 := HC2.out.frozen 1
        go_wp2
        refine st_ret HC2.out B5.out (by omega) _ _ _ rfl rfl rfl Try.underlying24 rfl (by kernel_rfl) ?_
        intro w' K' B'
        exact ⟨_, rfl, OwnS.nil _ _ _, B'⟩

end Go.Proofs.Ytbbjbajdoekheaa
