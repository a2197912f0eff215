/-
  The contract of the program's Decode of a superblock. Conditions: those that each contract names.
-/
import Derived.Test.YtdgnkpmjjapmpabSDec0
import Derived.Test.YtdgnkpmjjapmpabSOf
import Derived.Lib.SlBytesConst
namespace Go.Proofs.Ytdgnkpmjjapmpab
open Go.RowKit
set_option linter.unusedVariables false

set_option maxHeartbeats 1000000 in
theorem decode_short (w : World) (a : Option Addr) (n cap : Nat) (hn : n ≤ 140737488351232) (h : n ≠ 64) :
    Calls Try.prog 7 #[.slice a n cap] w fun e w' => e = .returned (.tuple #[.agg (cells7 Sup.zero).toArray, .int .i64 8]) ∧ Below w.heap.size w w' := by
  have hne : ((n : Int) != 64) = true := bne_iff_ne.2 (by omega)
  obtain ⟨w0, hw0, V, bw0, -⟩ := boxedRow w 29 [.int .i64 0, .int .i64 0, .int .i64 0, .int .i64 0, .int .i64 0, .int .i64 0, .int .i64 0]
  have c0 := V.cell (j := 0) rfl
  have c1 := V.cell (j := 1) rfl
  have c2 := V.cell (j := 2) rfl
  have c3 := V.cell (j := 3) rfl
  have c4 := V.cell (j := 4) rfl
  have c5 := V.cell (j := 5) rfl
  have c6 := V.cell (j := 6) rfl
  have f0 := V.frozen 0
  have f1 := V.frozen 1
  have f2 := V.frozen 2
  have f3 := V.frozen 3
  have f4 := V.frozen 4
  have f5 := V.frozen 5
  have f6 := V.frozen 6
  go_enter Try.func7, Try.ntmps7
  go_wp2
  exact sup_ret V bw0 (Nat.le_refl _) _ _ _ _ _ _ _ _ rfl rfl rfl Try.underlying29 rfl (by kernel_rfl) (fun w' _ b' => ⟨rfl, b'⟩)

set_option maxHeartbeats 1000000 in
theorem decode_open (w : World) (a : Option Addr) (cap : Nat) (l : List UInt8) (hcap : 64 ≤ cap) (hnil : a = none → cap = 0) (hB : IsB w a 64 l) (hE : Crc.openE l ≠ 0) :
    Calls Try.prog 7 #[.slice a 64 cap] w fun e w' => e = .returned (.tuple #[.agg (cells7 Sup.zero).toArray, .int .i64 21]) ∧ Below w.heap.size w w' := by
  have HB : Hid (IsB _ _ _ _) := hB
  clear hB
  obtain ⟨w0, hw0, V, bw0, -⟩ := boxedRow w 29 [.int .i64 0, .int .i64 0, .int .i64 0, .int .i64 0, .int .i64 0, .int .i64 0, .int .i64 0]
  go_enter Try.func7, Try.ntmps7
  go_wp2_with fail
  refine (open_said _ _ 64 _ l (by decide) hcap hnil (HB.out.below bw0)).mono ?_
  rintro ex w1 ⟨xa, xn, xc, rfl, ho, bw1⟩
  have hEb : (Crc.openE l != 0) = true := bne_iff_ne.2 hE
  have V := V.below bw1
  have c0 := V.cell (j := 0) rfl
  have c1 := V.cell (j := 1) rfl
  have c2 := V.cell (j := 2) rfl
  have c3 := V.cell (j := 3) rfl
  have c4 := V.cell (j := 4) rfl
  have c5 := V.cell (j := 5) rfl
  have c6 := V.cell (j := 6) rfl
  have f0 := V.frozen 0
  have f1 := V.frozen 1
  have f2 := V.frozen 2
  have f3 := V.frozen 3
  have f4 := V.frozen 4
  have f5 := V.frozen 5
  have f6 := V.frozen 6
  clear ho hE
  go_wp2
  exact sup_ret V (on bw0 bw1) (Nat.le_refl _) _ _ _ _ _ _ _ _ rfl rfl rfl Try.underlying29 rfl (by kernel_rfl) (fun w' _ b' => ⟨rfl, b'⟩)

theorem wrap64_in (n : Int) : -9223372036854775808 ≤ wrap64 n ∧ wrap64 n ≤ 9223372036854775807 := by unfold wrap64; omega

theorem rSuper_ofW (w : World) (P : Nat → Prop) (n0 n1 n2 n3 n4 n5 n6 : Nat) : rSuper.rd w P [.int .i64 (wrap64 n0), .int .i64 (wrap64 n1), .int .i64 (wrap64 n2), .int .i64 (wrap64 n3), .int .i64 (wrap64 n4), .int .i64 (wrap64 n5), .int .i64 (wrap64 n6)] (Sup.ofW [n0, n1, n2, n3, n4, n5, n6]) :=
  ⟨[_], _, rfl, ⟨rfl, wrap64_in _⟩, [_], _, rfl, ⟨rfl, wrap64_in _⟩, [_], _, rfl, ⟨rfl, wrap64_in _⟩, [_], _, rfl, ⟨rfl, wrap64_in _⟩, [_], _, rfl, ⟨rfl, wrap64_in _⟩, [_], _, rfl, ⟨rfl, wrap64_in _⟩, rfl, wrap64_in _⟩

theorem isB_head (w : World) : IsB (w.alloc (.cells #[.int .u8 102, .int .u8 115, .int .u8 116, .int .u8 49] 5 (4, 5))) (some ⟨w.heap.size, 0, none⟩) 4 Sup.head := isB_lit w Sup.head (4, 5)

set_option maxHeartbeats 4000000 in
theorem decode_in (w : World) (a : Option Addr) (cap : Nat) (l : List UInt8) (hcap : 64 ≤ cap) (hnil : a = none → cap = 0) (hB : IsB w a 64 l) (hE : Crc.openE l = 0) :
    Calls Try.prog 7 #[.slice a 64 cap] w fun e w' => e = .returned (.tuple #[.agg (cells7 (Sup.decodeS l)).toArray, .int .i64 (Sup.decodeE l)]) ∧ Below w.heap.size w w' := by
  have hl60 : (Crc.openL l).length = 60 := openL_length hB.1 hE
  have hl64 : Hid (l.length = 64) := hB.1
  have HL : Hid _ := hl60
  have HB : Hid (IsB _ _ _ _) := hB
  clear hB hl60
  obtain ⟨w0, hw0, V, bw0, -⟩ := boxedRow w 29 [.int .i64 0, .int .i64 0, .int .i64 0, .int .i64 0, .int .i64 0, .int .i64 0, .int .i64 0]
  have V0 : Hid (Row _ _ _ _) := V
  clear V
  have kc := fun (w : World) (C : Array Value) (n c : Nat) => Lib.run_convert_bytes_const (P := Try.prog) w 25 5 C n c Try.underlying25 Try.underlying5
  go_enter Try.func7, Try.ntmps7
  go_wp2_with fail
  refine (open_said _ _ 64 _ l (by decide) hcap hnil (HB.out.below bw0)).mono ?_
  rintro ex w1 ⟨xa, xn, xc, rfl, ho, bw1⟩
  rw [hE]
  obtain rfl : xn = 60 := (owns_len ho).trans HL.out
  obtain ⟨hX, hXc, -⟩ := owns_isB ho
  obtain ⟨xb, xo, rfl, -⟩ := hX.place (by decide)
  have HX : Hid (IsB _ _ _ _) := hX
  have HE : Hid _ := hE
  have BW1 : Hid (Below w.heap.size w w1) := on bw0 bw1
  have V1 : Hid (Row _ _ _ _) := V0.out.below bw1
  clear hX ho hE V0 bw0 bw1 hw0
  cases hh : Sup.isHead l
  · have E9 : Hid _ := Sup.decode_no hl64.out (fun h => by rw [hh] at h; exact Bool.noConfusion h.2.1)
    have HH : Hid _ := hh
    clear hh
    go_wp2_with fail
    refine (cutPrefix_u _ xb xo 60 xc _ 4 4 _ Sup.head (by decide) hXc (by decide) (by decide) (HX.out.below ((Below.refl _ _).alloc (Nat.le_refl _) _)) (isB_head _) false HH.out).mono ?_
    rintro ey w2 ⟨rfl, hw2⟩
    have V2 := (V1.out.alloc (.cells #[.int .u8 102, .int .u8 115, .int .u8 116, .int .u8 49] 5 (4, 5)))
    have B2 := alloc_on BW1.out (.cells #[.int .u8 102, .int .u8 115, .int .u8 116, .int .u8 49] 5 (4, 5))
    rw [hw2] at V2 B2
    clear hw2 kc
    have c0 := V2.cell (j := 0) rfl
    have c1 := V2.cell (j := 1) rfl
    have c2 := V2.cell (j := 2) rfl
    have c3 := V2.cell (j := 3) rfl
    have c4 := V2.cell (j := 4) rfl
    have c5 := V2.cell (j := 5) rfl
    have c6 := V2.cell (j := 6) rfl
    have f0 := V2.frozen 0
    have f1 := V2.frozen 1
    have f2 := V2.frozen 2
    have f3 := V2.frozen 3
    have f4 := V2.frozen 4
    have f5 := V2.frozen 5
    have f6 := V2.frozen 6
    go_wp2
    exact sup_ret V2 B2 (Nat.le_refl _) _ _ _ _ _ _ _ _ rfl rfl rfl Try.underlying29 rfl (by kernel_rfl) (fun w' _ b' => ⟨by rw [E9.out.1, E9.out.2]; rfl, b'⟩)
  · have HH : Hid _ := hh
    clear hh
    go_wp2_with fail
    refine (cutPrefix_u _ xb xo 60 xc _ 4 4 _ Sup.head (by decide) hXc (by decide) (by decide) (HX.out.below ((Below.refl _ _).alloc (Nat.le_refl _) _)) (isB_head _) true HH.out).mono ?_
    rintro ey w2 ⟨rfl, hw2⟩
    have V2 := (V1.out.alloc (.cells #[.int .u8 102, .int .u8 115, .int .u8 116, .int .u8 49] 5 (4, 5)))
    have B2 := alloc_on BW1.out (.cells #[.int .u8 102, .int .u8 115, .int .u8 116, .int .u8 49] 5 (4, 5))
    have HX2 : Hid (IsB w2 (some ⟨xb, xo, none⟩) 60 (Crc.openL l)) := by rw [← hw2]; exact HX.out.below ((Below.refl _ _).alloc (Nat.le_refl _) _)
    rw [hw2] at V2 B2
    have HV2 : Hid (Row _ _ _ _) := V2
    have HB2 : Hid (Below w.heap.size w w2) := B2
    clear hw2 kc V1 BW1 V2 B2 HX
    have HT : Hid (IsB w2 (some ⟨xb, xo + 4 + 36, none⟩) 20 ((Crc.openL l).drop 40)) := by
      have h := HX2.out.mid 40 20 (by decide)
      rw [List.take_of_length_le (by rw [List.length_drop, HL.out]; decide)] at h
      rw [show xo + 4 + 36 = xo + 40 from by omega]
      exact h
    go_wp2_with fail
    cases hb : Sup.isBare l
    · have E9 : Hid _ := Sup.decode_no hl64.out (fun h => by rw [hb] at h; exact Bool.noConfusion h.2.2)
      have hr : (!((Crc.openL l).drop 40).all (· == 0)) = true := by unfold Sup.isBare at hb; rw [hb]; rfl
      refine (anyNoZero_u _ xb _ 20 _ _ (by decide) HT.out true hr).mono ?_
      rintro ey w3 ⟨rfl, rfl⟩
      have V2 := HV2.out
      clear hb hr
      have c0 := V2.cell (j := 0) rfl
      have c1 := V2.cell (j := 1) rfl
      have c2 := V2.cell (j := 2) rfl
      have c3 := V2.cell (j := 3) rfl
      have c4 := V2.cell (j := 4) rfl
      have c5 := V2.cell (j := 5) rfl
      have c6 := V2.cell (j := 6) rfl
      have f0 := V2.frozen 0
      have f1 := V2.frozen 1
      have f2 := V2.frozen 2
      have f3 := V2.frozen 3
      have f4 := V2.frozen 4
      have f5 := V2.frozen 5
      have f6 := V2.frozen 6
      go_wp2
      exact sup_ret V2 HB2.out (Nat.le_refl _) _ _ _ _ _ _ _ _ rfl rfl rfl Try.underlying29 rfl (by kernel_rfl) (fun w' _ b' => ⟨by rw [E9.out.1, E9.out.2]; rfl, b'⟩)
    · have hr : (!((Crc.openL l).drop 40).all (· == 0)) = false := by unfold Sup.isBare at hb; rw [hb]; rfl
      refine (anyNoZero_u _ xb _ 20 _ _ (by decide) HT.out false hr).mono ?_
      rintro ey w3 ⟨rfl, rfl⟩
      have HBARE : Hid _ := hb
      clear hb hr HT
      have HOK : Hid _ := Sup.inner_ok HL.out
      have HI : Hid (IsB w2 (some ⟨xb, xo + 4, none⟩) 36 (Sup.inner l)) := HX2.out.mid 4 36 (by decide)
      clear HX2
      have q36 : (36 : Int) ≤ ((xc - 4 : Nat) : Int) := by omega
      go_wp2_with fail
      go_region_held_law (fun w' : World => True) (trivial)
        (first
        | (go_simp; go_at_call 13; refine (widths_l _).mono ?_; rintro ey w3 ⟨rfl, hW, bw3⟩; have HW : Hid (IsN _ _ _ _ _) := hW; clear hW; have BW3 : Hid (Below w2.heap.size w2 w3) := below_of_drew bw3; clear bw3; go_simp)
        | (go_simp; go_at_call 20; refine (unpack_in _ _ _ 7 7 36 _ Sup.widths (Sup.inner l) (by decide) (by decide) HW.out (HI.out.below BW3.out)).mono ?_
           rintro ez w4 ⟨ua, un, uc, rfl, hU, bw4⟩
           rw [HOK.out.1]
           obtain ⟨ua', uc', eu, -, eun, -, hUN⟩ := owns_nums hU
           rw [HOK.out.2.1] at eun
           subst eun
           have HU : Hid (IsN .u64 w4 ua 7 _) := (by cases eu; exact hUN)
           have BW4 : Hid (Below w2.heap.size w2 w4) := on BW3.out bw4
           clear hU bw4 eu hUN; go_simp))
      obtain ⟨n0, n1, n2, n3, n4, n5, n6, hU7⟩ := seven_of HOK.out.2.1
      have HD : Hid _ := Sup.decode_in hl64.out HE.out HH.out HBARE.out
      rw [hU7] at HU HD
      obtain ⟨ub, uo, rfl, -, -⟩ := HU.out.place (by decide)
      have HB4 : Hid (Below w.heap.size w w4) := on HB2.out BW4.out
      have HV4 : Hid (Row _ _ _ _) := HV2.out.below BW4.out
      clear hU7 HW BW3 HOK HI HBARE HL HE HH HB hl64 BW4 HB2 HV2
      go_wp2_with fail
      refine (superOf_u _ ub uo _ n0 n1 n2 n3 n4 n5 n6 HU.out).mono ?_
      rintro ey w5 ⟨rfl, bw5⟩
      have HB5 : Hid (Below w.heap.size w w5) := on HB4.out bw5
      have HV5 : Hid (Row _ _ _ _) := HV4.out.below bw5
      clear bw5 HB4 HV4 HU
      have HS6 : Hid (Row (w5.alloc (.cells #[.int .i64 (wrap64 n0), .int .i64 (wrap64 n1), .int .i64 (wrap64 n2), .int .i64 (wrap64 n3), .int .i64 (wrap64 n4), .int .i64 (wrap64 n5), .int .i64 (wrap64 n6)] 29)) w5.heap.size 29 [.int .i64 (wrap64 n0), .int .i64 (wrap64 n1), .int .i64 (wrap64 n2), .int .i64 (wrap64 n3), .int .i64 (wrap64 n4), .int .i64 (wrap64 n5), .int .i64 (wrap64 n6)]) := row_new w5 29 [.int .i64 (wrap64 n0), .int .i64 (wrap64 n1), .int .i64 (wrap64 n2), .int .i64 (wrap64 n3), .int .i64 (wrap64 n4), .int .i64 (wrap64 n5), .int .i64 (wrap64 n6)]
      have HV6 : Hid (Row _ _ _ _) := HV5.out.alloc (.cells #[.int .i64 (wrap64 n0), .int .i64 (wrap64 n1), .int .i64 (wrap64 n2), .int .i64 (wrap64 n3), .int .i64 (wrap64 n4), .int .i64 (wrap64 n5), .int .i64 (wrap64 n6)] 29)
      have HB6 : Hid (Below w.heap.size w _) := alloc_on HB5.out (.cells #[.int .i64 (wrap64 n0), .int .i64 (wrap64 n1), .int .i64 (wrap64 n2), .int .i64 (wrap64 n3), .int .i64 (wrap64 n4), .int .i64 (wrap64 n5), .int .i64 (wrap64 n6)] 29)
      clear HB5 HV5 q36
      go_wp2_with fail
      refine (check4_u _ (fun _ => True) _ _ (rSuper_ofW _ _ n0 n1 n2 n3 n4 n5 n6)).mono ?_
      rintro ey w7 ⟨rfl, bw7⟩
      have HB7 : Hid (Below w.heap.size w w7) := on HB6.out bw7
      have V7 := HV6.out.below bw7
      have S7 := HS6.out.below bw7
      clear bw7 HB6 HV6 HS6
      have c0 := V7.cell (j := 0) rfl
      have c1 := V7.cell (j := 1) rfl
      have c2 := V7.cell (j := 2) rfl
      have c3 := V7.cell (j := 3) rfl
      have c4 := V7.cell (j := 4) rfl
      have c5 := V7.cell (j := 5) rfl
      have c6 := V7.cell (j := 6) rfl
      have f0 := V7.frozen 0
      have f1 := V7.frozen 1
      have f2 := V7.frozen 2
      have f3 := V7.frozen 3
      have f4 := V7.frozen 4
      have f5 := V7.frozen 5
      have f6 := V7.frozen 6
      have cs0 := S7.cell (j := 0) rfl
      have cs1 := S7.cell (j := 1) rfl
      have cs2 := S7.cell (j := 2) rfl
      have cs3 := S7.cell (j := 3) rfl
      have cs4 := S7.cell (j := 4) rfl
      have cs5 := S7.cell (j := 5) rfl
      have cs6 := S7.cell (j := 6) rfl
      have HV7 : Hid (Row _ _ _ _) := V7
      clear V7 S7
      cases hok : Sup.ok (Sup.ofW [n0, n1, n2, n3, n4, n5, n6])
      · have e1 : Sup.checkE (Sup.ofW [n0, n1, n2, n3, n4, n5, n6]) = 4 := by unfold Sup.checkE; rw [hok]; rfl
        have HD2 : Hid (Sup.decodeE l = 4 ∧ Sup.decodeS l = Sup.zero) := by
          have h := HD.out
          rw [hok, e1, if_neg (by decide)] at h
          exact h
        rw [e1]
        clear HD e1 hok
        go_wp2
        exact sup_ret HV7.out HB7.out (Nat.le_refl _) _ _ _ _ _ _ _ _ rfl rfl rfl Try.underlying29 rfl (by kernel_rfl) (fun w' _ b' => ⟨by rw [HD2.out.1, HD2.out.2]; rfl, b'⟩)
      · have e1 : Sup.checkE (Sup.ofW [n0, n1, n2, n3, n4, n5, n6]) = 0 := by unfold Sup.checkE; rw [hok]; rfl
        have HD2 : Hid (Sup.decodeE l = 0 ∧ Sup.decodeS l = Sup.ofW [n0, n1, n2, n3, n4, n5, n6]) := by
          have h := HD.out
          rw [hok, e1, if_pos rfl] at h
          exact h
        rw [e1]
        clear HD e1 hok
        go_wp2
        exact sup_ret HV7.out HB7.out (Nat.le_refl _) _ _ _ _ _ _ _ _ rfl rfl rfl Try.underlying29 rfl (by kernel_rfl) (fun w' _ b' => ⟨by rw [HD2.out.1, HD2.out.2]; rfl, b'⟩)

theorem decode_u (w : World) (a : Option Addr) (n cap : Nat) (l : List UInt8) (hn : n ≤ 140737488351232) (hcap : n ≤ cap) (hnil : a = none → cap = 0) (hB : IsB w a n l) :
    Calls Try.prog 7 #[.slice a n cap] w fun e w' => e = .returned (.tuple #[.agg (cells7 (Sup.decodeS l)).toArray, .int .i64 (Sup.decodeE l)]) ∧ Below w.heap.size w w' := by
  have hl := hB.1
  by_cases h : n = 64
  · subst h
    by_cases hE : Crc.openE l = 0
    · exact decode_in w a cap l hcap hnil hB hE
    · rw [(Sup.decode_refused hl hE).1, (Sup.decode_refused hl hE).2]
      exact decode_open w a cap l hcap hnil hB hE
  · rw [(Sup.decode_length (b := l) (by omega)).1, (Sup.decode_length (b := l) (by omega)).2]
    exact decode_short w a n cap hn h

end Go.Proofs.Ytdgnkpmjjapmpab
