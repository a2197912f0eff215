/-
  The landed free: Resize, at whatever state and size. Conditions: those that each contract names.
-/
import Derived.Test.YtbbjbajdoekheaaYH
import Derived.Test.YtbbjbajdoekheaaYM
import Derived.Test.YtbbjbajdoekheaaFRes
namespace Go.Proofs.Ytbbjbajdoekheaa
open Go.RowKit
set_option linter.unusedVariables false

set_option maxRecDepth 20000 in
set_option maxHeartbeats 4000000 in
theorem resize1_writes (w : World) (P : Nat → Prop) (z : Int) (a : Option Addr) (n c : Nat) (l : List Spn) (hL : rSpns.rd w P [.slice a n c] l) (hO : Fr.Ok z l) (m : Int) (hm0 : 0 ≤ m) (hm1 : m ≤ 65536) (A B : Nat) (VA : Row w A 27 [.int .i64 z, .slice a n c]) (VB : Row w B 3 [.int .i64 m]) :
    Writes 52 #[.pointer (some ⟨A, 0, none⟩), .pointer (some ⟨B, 0, none⟩)] w (Fr.sizePs z l m) := by
  intro g cs J S w1 L hJ b1 hS
  have HY : Hid (Lays g cs J) := L
  have eg := L.enters
  have HJ : Hid (J [] S w1) := hJ
  have B1 : Hid (Below w.heap.size w w1) := b1
  have HS : Hid _ := hS
  have HL0 : Hid _ := hL
  have HMid : Hid _ := hO.mid
  have hn : n ≤ 1024 := by have := hO.len; rw [(rList_len hL).1] at this; exact this
  have HN : Hid (l.length = n) := (rList_len hL).1
  have hz0 := hO.low
  have hz1 := hO.high
  have SK : Hid (∀ {w' : World}, Below w.heap.size w w' → w'.cell? ⟨A, 0, none⟩ = some (.int .i64 z) ∧ w'.cell? ⟨A, 1, none⟩ = some (.slice a n c) ∧ w'.cell? ⟨B, 0, none⟩ = some (.int .i64 m)) := fun k => ⟨(VA.below k).two.1, (VA.below k).two.2, (VB.below k).cell (j := 0) rfl⟩
  have HLow : Hid (∀ b, b < w.heap.size → ¬ S b) := fun b hb hs => by have := hS b hs; omega
  obtain ⟨e0, e1, e2⟩ := SK.out B1.out
  clear hL hO b1 hS L hJ VA VB
  go_enter Try.func52, Try.ntmps52
  go_wp2_with fail
  refine Calls.mono (layWithin_u HY.out w1 (fun b => b < w.heap.size) a n c l (rSpns_low HL0.out B1.out) HMid.out hn ([]) (by decide) S HJ.out (fun b hb _ => HLow.out b hb) (0) (m) (by omega) (by omega) (by omega) (by omega)) ?_
  rintro e w2 ⟨rfl, S2, hj2, ht2⟩
  have HJ2 : Hid (J ([] ++ Fr.within l 0 m) S2 w2) := hj2
  have HT2 : Hid (Turns S S2 w1 w2) := ht2
  have B2 : Hid (Below w.heap.size w w2) := B1.out.trans (HT2.out.below B1.out.size HS.out)
  have HSec : Hid (Fr.Sec (z, m)) := by unfold Hid Fr.Sec; simp only; omega
  have HC : Hid _ := HY.out.call (x := (z, m)) HJ2.out (by simp only [List.length_append, Fr.within_len, List.length_nil]; rw [HN.out]; omega) HSec.out
  clear hj2 ht2 e0 e1 e2
  obtain ⟨e0, e1, e2⟩ := SK.out B2.out
  go_wp2_with (go_at_fn g; refine Calls.mono HC.out ?_; rintro e w3 ⟨rfl, S3, hj3, ht3⟩)
  go_end0
  exact ⟨rfl, S3, by rw [List.nil_append] at hj3; exact hj3, HT2.out.trans ht3⟩

set_option maxRecDepth 20000 in
set_option maxHeartbeats 4000000 in
theorem freeResize_u (w : World) (P : Nat → Prop) (z : Int) (a : Option Addr) (n c : Nat) (l : List Spn) (hL : rSpns.rd w P [.slice a n c] l) (m : Int) :
    Calls Try.prog 28 #[.agg #[.int .i64 z, .slice a n c], .int .i64 m] w fun e w' => ∃ v, e = .returned (.tuple #[.agg #[.int .i64 (Fr.resizeZ z l m), v], .int .i64 (Fr.resizeE z l m)]) ∧ OwnS 26 w' w.heap.size v (Fr.resizeL z l m) ∧ Below w.heap.size w w' := by
  have HR : Hid _ := hL
  obtain ⟨w0, hw0, V0, b0, z0⟩ := boxedRow w 27 [.int .i64 z, .slice a n c]
  obtain ⟨w1, hw1, V1, b1, z1⟩ := boxedRow w0 3 [.int .i64 m]
  obtain ⟨w2, hw2, V2, b2, z2⟩ := boxedRow w1 27 [.int .i64 0, .slice none 0 0]
  rw [z0] at V1 z1
  rw [z1] at V2
  have B2 : Hid (Below w.heap.size w w2) := on (on b0 b1) b2
  have HV0 : Hid (Row w2 w.heap.size 27 [.int .i64 z, .slice a n c]) := (V0.below b1).below b2
  have HV1 : Hid (Row w2 (w.heap.size + 1) 3 [.int .i64 m]) := V1.below b2
  have HV2 : Hid (Row w2 (w.heap.size + 1 + 1) 27 [.int .i64 0, .slice none 0 0]) := V2
  obtain ⟨d0, d1⟩ := HV0.out.two
  clear hL V0 V1 V2 b0 b1 b2 z2
  cases ho : Fr.okB z l
  · have HC : Hid (Fr.checkE z l = 9) := Fr.checkE_no ho
    obtain ⟨t1, t2, t3⟩ := Fr.resize_no (m := m) ho
    rw [t1, t2, t3]
    clear t1 t2 t3 ho
    go_enter Try.func28, Try.ntmps28
    go_wp2_with fail
    refine (freeHighest_u _ P z a n c l (Rep.below HR.out B2.out)).mono ?_
    rintro e w3 ⟨rfl, b3⟩
    have B3 : Hid (Below w.heap.size w w3) := on B2.out b3
    have HA0 : Hid (Row w3 w.heap.size 27 [.int .i64 z, .slice a n c]) := HV0.out.below b3
    have HA1 : Hid (Row w3 (w.heap.size + 1) 3 [.int .i64 m]) := HV1.out.below b3
    have HA2 : Hid (Row w3 (w.heap.size + 1 + 1) 27 [.int .i64 0, .slice none 0 0]) := HV2.out.below b3
    clear b3 d0 d1
    rw [HC.out]
    obtain ⟨r0, r1⟩ := HA2.out.two
    have r2 := HA2.out.frozen 0
    have r3 := HA2.out.frozen 1
    go_wp2
    refine st_ret HA2.out B3.out (by omega) _ _ _ rfl rfl rfl Try.underlying27 rfl (by kernel_rfl) ?_
    intro w' K' B'
    exact ⟨_, rfl, OwnS.nil _ _ _, B'⟩
  · have HC : Hid (Fr.checkE z l = 0) := Fr.checkE_ok ho
    have HO : Hid (Fr.Ok z l) := Fr.ok_iff.1 ho
    have HH : Hid (Fr.highA z l = Fr.high z l) := by unfold Hid Fr.highA; rw [ho]; rfl
    cases hs : Fr.sizeB m
    · have HSz : Hid (Fr.sizeB m = false) := hs
      obtain ⟨t1, t2, t3⟩ := Fr.resize_range ho hs
      rw [t1, t2, t3]
      clear t1 t2 t3 ho hs
      go_enter Try.func28, Try.ntmps28
      go_wp2_with fail
      refine (freeHighest_u _ P z a n c l (Rep.below HR.out B2.out)).mono ?_
      rintro e w3 ⟨rfl, b3⟩
      have B3 : Hid (Below w.heap.size w w3) := on B2.out b3
      have HA0 : Hid (Row w3 w.heap.size 27 [.int .i64 z, .slice a n c]) := HV0.out.below b3
      have HA1 : Hid (Row w3 (w.heap.size + 1) 3 [.int .i64 m]) := HV1.out.below b3
      have HA2 : Hid (Row w3 (w.heap.size + 1 + 1) 27 [.int .i64 0, .slice none 0 0]) := HV2.out.below b3
      clear b3 d0 d1
      rw [HC.out]
      obtain ⟨r0, r1⟩ := HA2.out.two
      have r2 := HA2.out.frozen 0
      have r3 := HA2.out.frozen 1
      have k1 := HA1.out.cell (j := 0) rfl
      go_wp2_with (go_at_call 50; refine (mayBeSize_u _ m _ HSz.out).mono ?_; rintro e w9 ⟨rfl, rfl⟩)
      refine st_ret HA2.out B3.out (by omega) _ _ _ rfl rfl rfl Try.underlying27 rfl (by kernel_rfl) ?_
      intro w' K' B'
      exact ⟨_, rfl, OwnS.nil _ _ _, B'⟩
    · have HSz : Hid (Fr.sizeB m = true) := hs
      obtain ⟨hm0, hm1⟩ : 0 ≤ m ∧ m ≤ 65536 := by unfold Fr.sizeB at hs; simpa using hs
      by_cases hh : m < Fr.high z l
      · obtain ⟨t1, t2, t3⟩ := Fr.resize_busy ho hs hh
        rw [t1, t2, t3]
        obtain ⟨hi, hhi⟩ : ∃ hi, Fr.high z l = hi := ⟨_, rfl⟩
        rw [hhi] at hh
        have HHi : Hid _ := hhi
        clear t1 t2 t3 ho hs hhi
        go_enter Try.func28, Try.ntmps28
        go_wp2_with fail
        refine (freeHighest_u _ P z a n c l (Rep.below HR.out B2.out)).mono ?_
        rintro e w3 ⟨rfl, b3⟩
        have B3 : Hid (Below w.heap.size w w3) := on B2.out b3
        have HA0 : Hid (Row w3 w.heap.size 27 [.int .i64 z, .slice a n c]) := HV0.out.below b3
        have HA1 : Hid (Row w3 (w.heap.size + 1) 3 [.int .i64 m]) := HV1.out.below b3
        have HA2 : Hid (Row w3 (w.heap.size + 1 + 1) 27 [.int .i64 0, .slice none 0 0]) := HV2.out.below b3
        clear b3 d0 d1
        rw [HC.out, HH.out, HHi.out]
        obtain ⟨r0, r1⟩ := HA2.out.two
        have r2 := HA2.out.frozen 0
        have r3 := HA2.out.frozen 1
        have k1 := HA1.out.cell (j := 0) rfl
        go_wp2_with (go_at_call 50; refine (mayBeSize_u _ m _ HSz.out).mono ?_; rintro e w9 ⟨rfl, rfl⟩)
        refine st_ret HA2.out B3.out (by omega) _ _ _ rfl rfl rfl Try.underlying27 rfl (by kernel_rfl) ?_
        intro w' K' B'
        exact ⟨_, rfl, OwnS.nil _ _ _, B'⟩
      · obtain ⟨t1, t2, t3⟩ := Fr.resize_said ho hs hh
        rw [t1, t2, t3]
        have HLd : Hid (Fr.layAll [] (Fr.sizePs z l m) = Fr.resized z l m) := Fr.sized_laid HO.out.fit HO.out.low hm0 (by omega)
        obtain ⟨hi, hhi⟩ : ∃ hi, Fr.high z l = hi := ⟨_, rfl⟩
        rw [hhi] at hh
        have HHi : Hid _ := hhi
        clear t1 t2 t3 ho hs hhi
        go_enter Try.func28, Try.ntmps28
        go_wp2_with fail
        refine (freeHighest_u _ P z a n c l (Rep.below HR.out B2.out)).mono ?_
        rintro e w3 ⟨rfl, b3⟩
        have B3 : Hid (Below w.heap.size w w3) := on B2.out b3
        have HA0 : Hid (Row w3 w.heap.size 27 [.int .i64 z, .slice a n c]) := HV0.out.below b3
        have HA1 : Hid (Row w3 (w.heap.size + 1) 3 [.int .i64 m]) := HV1.out.below b3
        have HA2 : Hid (Row w3 (w.heap.size + 1 + 1) 27 [.int .i64 0, .slice none 0 0]) := HV2.out.below b3
        clear b3 d0 d1
        rw [HC.out, HH.out, HHi.out]
        have k1 := HA1.out.cell (j := 0) rfl
        have HWR : Hid _ := resize1_writes w3 P z a n c l (Rep.below HR.out B3.out) HO.out m hm0 hm1 w.heap.size (w.heap.size + 1) HA0.out HA1.out
        go_wp2_with (go_at_call 50; refine (mayBeSize_u _ m _ HSz.out).mono ?_; rintro e w9 ⟨rfl, rfl⟩)
        refine (laid_u w3 _ _ (enters_of Try.func52 (by kernel_rfl) rfl) m _ _ HLd.out HWR.out).mono ?_
        rintro e w5 ⟨v5, rfl, ho5, b5⟩
        have BR : Hid (Below w.heap.size w w5) := on B3.out b5
        have HVR : Hid (Row w5 (w.heap.size + 1 + 1) 27 [.int .i64 0, .slice none 0 0]) := HA2.out.below b5
        have HO5 : Hid (OwnS _ _ _ _ _) := ho5
        have HZ5 : Hid (w.heap.size + 1 + 1 < w3.heap.size) := HA2.out.lt
        obtain ⟨a5, c5, rfl, -, -⟩ := ho5.slice
        obtain ⟨r0, r1⟩ := HVR.out.two
        have r2 := HVR.out.frozen 0
        have r3 := HVR.out.frozen 1
        clear ho5 b5
        go_wp2
        refine st_ret HVR.out BR.out (by omega) _ _ _ rfl rfl rfl Try.underlying27 rfl (by kernel_rfl) ?_
        intro w' K' B'
        exact ⟨_, rfl, (HO5.out.kept K' HZ5.out).mono B3.out.size, B'⟩

end Go.Proofs.Ytbbjbajdoekheaa
