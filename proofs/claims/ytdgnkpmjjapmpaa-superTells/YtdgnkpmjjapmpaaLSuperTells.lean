/-
  Any superblock as a sector, any octets as one, the newer of any two, are the page's; octets stay. Conditions: none.
-/
import Derived.Test.YtdgnkpmjjapmpaaSAlive
import Derived.Test.YtdgnkpmjjapmpaaSFrame
import Derived.Test.YtdgnkpmjjapmpaaSEq
import Derived.Test.YtdgnkpmjjapmpaaBSame
import Derived.Test.YtdgnkpmjjapmpaaRBytes
import Derived.Test.YtdgnkpmjjapmpaaSNew
import Derived.Test.YtdgnkpmjjapmpaaRSNew
import Derived.Deep.RegionHeldLaw
namespace Go.Proofs.Ytdgnkpmjjapmpaa
open Go.ChangeShapes Go.WideShapes Go.ChangeAt Go.RowKit
set_option linter.unusedVariables false

theorem Row.sevens {w' : World} {g : Nat} {t : TypeId} {s : Super} (h : Row w' g t [.int .i64 s.1, .int .i64 s.2.1, .int .i64 s.2.2.1, .int .i64 s.2.2.2.1, .int .i64 s.2.2.2.2.1, .int .i64 s.2.2.2.2.2.1, .int .i64 s.2.2.2.2.2.2]) : w'.cell? ⟨g, 0, none⟩ = some (.int .i64 s.1) ∧ w'.cell? ⟨g, 1, none⟩ = some (.int .i64 s.2.1) ∧ w'.cell? ⟨g, 2, none⟩ = some (.int .i64 s.2.2.1) ∧ w'.cell? ⟨g, 3, none⟩ = some (.int .i64 s.2.2.2.1) ∧ w'.cell? ⟨g, 4, none⟩ = some (.int .i64 s.2.2.2.2.1) ∧ w'.cell? ⟨g, 5, none⟩ = some (.int .i64 s.2.2.2.2.2.1) ∧ w'.cell? ⟨g, 6, none⟩ = some (.int .i64 s.2.2.2.2.2.2) :=
  ⟨h.cell rfl, h.cell rfl, h.cell rfl, h.cell rfl, h.cell rfl, h.cell rfl, h.cell rfl⟩

set_option maxHeartbeats 16000000 in
theorem stells_walk (cs : List Value) (s : Super) (a : Option Addr) (n c : Nat) (la : List UInt8) (b : Option Addr) (m d : Nat) (lb : List UInt8) (W : World) (h0 : rSuper.rd W (fun b => b < W.heap.size) cs s) (h1 : rBytes.rd W (fun b => b < W.heap.size) [.slice a n c] la) (h2 : rBytes.rd W (fun b => b < W.heap.size) [.slice b m d] lb) :
    Calls Try.prog 3 #[.agg cs.toArray, .slice a n c, .slice b m d] W fun e W' => e = .returned (.bool true) ∧ Below W.heap.size W W' := by
  have HS0 : Hid _ := h0
  obtain rfl := rSuper_cells h0
  obtain ⟨hA, hac, hanil, han⟩ := rBytes_isB h1
  have HA : Hid (IsB _ _ _ _) := hA
  have Hac : Hid _ := hac
  have Hanil : Hid _ := hanil
  have Han : Hid _ := han
  obtain ⟨hB, hbc, hbnil, hbn⟩ := rBytes_isB h2
  have HB : Hid (IsB _ _ _ _) := hB
  have Hbc : Hid _ := hbc
  have Hbnil : Hid _ := hbnil
  have Hbn : Hid _ := hbn
  clear h0 h1 h2 hA hac hanil han hB hbc hbnil hbn
  obtain ⟨w0, hw0, V0, b0, -⟩ := boxedRow W 23 [.int .i64 s.1, .int .i64 s.2.1, .int .i64 s.2.2.1, .int .i64 s.2.2.2.1, .int .i64 s.2.2.2.2.1, .int .i64 s.2.2.2.2.2.1, .int .i64 s.2.2.2.2.2.2]
  have VS : Hid (Row _ _ _ _) := V0
  have B0 : Hid (Below W.heap.size W w0) := b0
  clear V0 b0
  go_enter Try.func3, Try.ntmps3
  go_wp2_with fail
  refine (copy_u _ a n c la (by have := Han.out; omega) Hanil.out (HA.out.below B0.out)).mono ?_
  rintro e w1 ⟨pa, pc, rfl, ho1, b1⟩
  obtain ⟨hP, hPc, hPn⟩ := owns_isB ho1
  have HP : Hid (IsB _ _ _ _) := hP
  have HPc : Hid _ := hPc
  have HPn : Hid _ := hPn
  have B1 : Hid (Below W.heap.size W w1) := on B0.out b1
  have VS1 : Hid (Row _ _ _ _) := VS.out.below b1
  clear ho1 hP hPc hPn b1 B0 VS hw0
  go_wp2_with fail
  refine (copy_u _ b m d lb (by have := Hbn.out; omega) Hbnil.out (HB.out.below B1.out)).mono ?_
  rintro e w2 ⟨qa, qc, rfl, ho2, b2⟩
  obtain ⟨hQ, hQc, hQn⟩ := owns_isB ho2
  have HQ : Hid (IsB _ _ _ _) := hQ
  have HQc : Hid _ := hQc
  have HQn : Hid _ := hQn
  have HP2 : Hid (IsB _ _ _ _) := HP.out.below b2
  have B2 : Hid (Below W.heap.size W w2) := on B1.out b2
  have S2 := VS1.out.below b2
  have cs0 := S2.cell (j := 0) rfl
  have cs1 := S2.cell (j := 1) rfl
  have cs2 := S2.cell (j := 2) rfl
  have cs3 := S2.cell (j := 3) rfl
  have cs4 := S2.cell (j := 4) rfl
  have cs5 := S2.cell (j := 5) rfl
  have cs6 := S2.cell (j := 6) rfl
  have VS2 : Hid (Row _ _ _ _) := S2
  clear ho2 hQ hQc hQn b2 B1 VS1 HP S2
  go_wp2_with fail
  refine (encode_u _ _ _ s (Rep.below HS0.out B2.out)).mono ?_
  rintro e w3 ⟨xa, xn, xc, rfl, ho3, b3⟩
  obtain ⟨hX, -, -⟩ := owns_isB ho3
  have HX : Hid (IsB _ _ _ _) := hX
  have B3 : Hid (Below W.heap.size W w3) := on B2.out b3
  have B23 : Hid (Below w2.heap.size w2 w3) := b3
  have S3 := VS2.out.below b3
  clear cs0 cs1 cs2 cs3 cs4 cs5 cs6
  have cs0 := S3.cell (j := 0) rfl
  have cs1 := S3.cell (j := 1) rfl
  have cs2 := S3.cell (j := 2) rfl
  have cs3 := S3.cell (j := 3) rfl
  have cs4 := S3.cell (j := 4) rfl
  have cs5 := S3.cell (j := 5) rfl
  have cs6 := S3.cell (j := 6) rfl
  have VS3 : Hid (Row _ _ _ _) := S3
  clear ho3 hX b3 VS2 S3
  go_wp2_with fail
  refine (refEncode_u _ _ _ s (Rep.below HS0.out B3.out)).mono ?_
  rintro e w4 ⟨ya, yn, yc, rfl, ho4, b4⟩
  obtain ⟨hY, -, -⟩ := owns_isB ho4
  have HY : Hid (IsB _ _ _ _) := hY
  have HX4 : Hid (IsB _ _ _ _) := HX.out.below b4
  have B4 : Hid (Below W.heap.size W w4) := on B3.out b4
  have B24 : Hid (Below w2.heap.size w2 w4) := on B23.out b4
  have VS4 : Hid (Row _ _ _ _) := VS3.out.below b4
  clear cs0 cs1 cs2 cs3 cs4 cs5 cs6
  clear ho4 hY b4 VS3 B23 HX B3
  go_wp2_with fail
  refine (decode_u _ pa n pc la Han.out HPc.out HPn.out (HP2.out.below B24.out)).mono ?_
  rintro e w5 ⟨rfl, b5⟩
  obtain ⟨D, hD⟩ : ∃ D, D = Sup.decodeS la := ⟨_, rfl⟩
  rw [← hD, show (cells7 D).toArray = #[.int .i64 D.1, .int .i64 D.2.1, .int .i64 D.2.2.1, .int .i64 D.2.2.2.1, .int .i64 D.2.2.2.2.1, .int .i64 D.2.2.2.2.2.1, .int .i64 D.2.2.2.2.2.2] from rfl]
  have HD : Hid _ := hD
  obtain ⟨w6, hw6, VD, b6, -⟩ := boxedRow w5 29 [.int .i64 D.1, .int .i64 D.2.1, .int .i64 D.2.2.1, .int .i64 D.2.2.2.1, .int .i64 D.2.2.2.2.1, .int .i64 D.2.2.2.2.2.1, .int .i64 D.2.2.2.2.2.2]
  have B46 : Hid (Below w4.heap.size w4 w6) := on b5 b6
  have VD6 : Hid (Row _ _ _ _) := VD
  clear hD b5 b6 VD
  go_wp2_with fail
  refine (refDecode_u _ a n c la Han.out Hac.out (HA.out.below (on B4.out B46.out))).mono ?_
  rintro e w7 ⟨rfl, b7⟩
  rw [← HD.out, show (cells7 D).toArray = #[.int .i64 D.1, .int .i64 D.2.1, .int .i64 D.2.2.1, .int .i64 D.2.2.2.1, .int .i64 D.2.2.2.2.1, .int .i64 D.2.2.2.2.2.1, .int .i64 D.2.2.2.2.2.2] from rfl]
  obtain ⟨w8, hw8, VE, b8, -⟩ := boxedRow w7 23 [.int .i64 D.1, .int .i64 D.2.1, .int .i64 D.2.2.1, .int .i64 D.2.2.2.1, .int .i64 D.2.2.2.2.1, .int .i64 D.2.2.2.2.2.1, .int .i64 D.2.2.2.2.2.2]
  have B48 : Hid (Below w4.heap.size w4 w8) := on (on B46.out b7) b8
  have VD8 : Hid (Row _ _ _ _) := (VD6.out.below b7).below b8
  have VE8 : Hid (Row _ _ _ _) := VE
  clear b7 b8 VE VD6 B46 hw6
  go_wp2_with fail
  refine (newest_u _ pa qa n pc m qc la lb Han.out HPc.out HPn.out (HP2.out.below (on B24.out B48.out)) Hbn.out HQc.out HQn.out (HQ.out.below (on B24.out B48.out))).mono ?_
  rintro e w9 ⟨rfl, b9⟩
  obtain ⟨U, hU⟩ : ∃ U, U = Sup.newestS la lb := ⟨_, rfl⟩
  rw [← hU, show (cells7 U).toArray = #[.int .i64 U.1, .int .i64 U.2.1, .int .i64 U.2.2.1, .int .i64 U.2.2.2.1, .int .i64 U.2.2.2.2.1, .int .i64 U.2.2.2.2.2.1, .int .i64 U.2.2.2.2.2.2] from rfl]
  have HU : Hid _ := hU
  obtain ⟨w10, hw10, VU, b10, -⟩ := boxedRow w9 29 [.int .i64 U.1, .int .i64 U.2.1, .int .i64 U.2.2.1, .int .i64 U.2.2.2.1, .int .i64 U.2.2.2.2.1, .int .i64 U.2.2.2.2.2.1, .int .i64 U.2.2.2.2.2.2]
  have B410 : Hid (Below w4.heap.size w4 w10) := on (on B48.out b9) b10
  have VD10 : Hid (Row _ _ _ _) := (VD8.out.below b9).below b10
  have VE10 : Hid (Row _ _ _ _) := (VE8.out.below b9).below b10
  have VU10 : Hid (Row _ _ _ _) := VU
  clear hU b9 b10 VU VD8 VE8 B48 hw8
  go_wp2_with fail
  refine (refNewest_u _ a b n c m d la lb Han.out Hac.out (HA.out.below (on B4.out B410.out)) Hbn.out Hbc.out (HB.out.below (on B4.out B410.out))).mono ?_
  rintro e w11 ⟨rfl, b11⟩
  rw [← HU.out, show (cells7 U).toArray = #[.int .i64 U.1, .int .i64 U.2.1, .int .i64 U.2.2.1, .int .i64 U.2.2.2.1, .int .i64 U.2.2.2.2.1, .int .i64 U.2.2.2.2.2.1, .int .i64 U.2.2.2.2.2.2] from rfl]
  obtain ⟨w12, hw12, VV, b12, -⟩ := boxedRow w11 23 [.int .i64 U.1, .int .i64 U.2.1, .int .i64 U.2.2.1, .int .i64 U.2.2.2.1, .int .i64 U.2.2.2.2.1, .int .i64 U.2.2.2.2.2.1, .int .i64 U.2.2.2.2.2.2]
  have B412 : Hid (Below w4.heap.size w4 w12) := on (on B410.out b11) b12
  have D12 := (VD10.out.below b11).below b12
  have E12 := (VE10.out.below b11).below b12
  have U12 := (VU10.out.below b11).below b12
  have S12 := VS4.out.below B412.out
  have cd0 := D12.cell (j := 0) rfl
  have cd1 := D12.cell (j := 1) rfl
  have cd2 := D12.cell (j := 2) rfl
  have cd3 := D12.cell (j := 3) rfl
  have cd4 := D12.cell (j := 4) rfl
  have cd5 := D12.cell (j := 5) rfl
  have cd6 := D12.cell (j := 6) rfl
  have ce0 := E12.cell (j := 0) rfl
  have ce1 := E12.cell (j := 1) rfl
  have ce2 := E12.cell (j := 2) rfl
  have ce3 := E12.cell (j := 3) rfl
  have ce4 := E12.cell (j := 4) rfl
  have ce5 := E12.cell (j := 5) rfl
  have ce6 := E12.cell (j := 6) rfl
  have cu0 := U12.cell (j := 0) rfl
  have cu1 := U12.cell (j := 1) rfl
  have cu2 := U12.cell (j := 2) rfl
  have cu3 := U12.cell (j := 3) rfl
  have cu4 := U12.cell (j := 4) rfl
  have cu5 := U12.cell (j := 5) rfl
  have cu6 := U12.cell (j := 6) rfl
  have cv0 := VV.cell (j := 0) rfl
  have cv1 := VV.cell (j := 1) rfl
  have cv2 := VV.cell (j := 2) rfl
  have cv3 := VV.cell (j := 3) rfl
  have cv4 := VV.cell (j := 4) rfl
  have cv5 := VV.cell (j := 5) rfl
  have cv6 := VV.cell (j := 6) rfl
  have cs0 := S12.cell (j := 0) rfl
  have cs1 := S12.cell (j := 1) rfl
  have cs2 := S12.cell (j := 2) rfl
  have cs3 := S12.cell (j := 3) rfl
  have cs4 := S12.cell (j := 4) rfl
  have cs5 := S12.cell (j := 5) rfl
  have cs6 := S12.cell (j := 6) rfl
  have HS12 : Hid (Row _ _ _ _) := S12
  have B12 : Hid (Below W.heap.size W w12) := on B4.out B412.out
  have B212 : Hid (Below w2.heap.size w2 w12) := on B24.out B412.out
  have HX12 : Hid (IsB _ _ _ _) := HX4.out.below B412.out
  have HY12 : Hid (IsB _ _ _ _) := HY.out.below B412.out
  clear b11 b12 VD10 VE10 VU10 VV D12 E12 U12 S12 hw10 VS4 HX4 HY B410
  have hq1 : ∀ w, (Op.equalIn 10000 23 (.agg #[.int .i64 D.1, .int .i64 D.2.1, .int .i64 D.2.2.1, .int .i64 D.2.2.2.1, .int .i64 D.2.2.2.2.1, .int .i64 D.2.2.2.2.2.1, .int .i64 D.2.2.2.2.2.2]) (.agg #[.int .i64 D.1, .int .i64 D.2.1, .int .i64 D.2.2.1, .int .i64 D.2.2.2.1, .int .i64 D.2.2.2.2.1, .int .i64 D.2.2.2.2.2.1, .int .i64 D.2.2.2.2.2.2])).run Try.prog w = .ok true w := fun w => (equal_ref w D D).trans (by simp)
  have hq2 : ∀ w, (Op.equalIn 10000 23 (.agg #[.int .i64 U.1, .int .i64 U.2.1, .int .i64 U.2.2.1, .int .i64 U.2.2.2.1, .int .i64 U.2.2.2.2.1, .int .i64 U.2.2.2.2.2.1, .int .i64 U.2.2.2.2.2.2]) (.agg #[.int .i64 U.1, .int .i64 U.2.1, .int .i64 U.2.2.1, .int .i64 U.2.2.2.1, .int .i64 U.2.2.2.2.1, .int .i64 U.2.2.2.2.2.1, .int .i64 U.2.2.2.2.2.2])).run Try.prog w = .ok true w := fun w => (equal_ref w U U).trans (by simp)
  go_wp2_with fail
  refine (sameBytes_any _ xa ya xn xc yn yc _ _ HX12.out HY12.out).mono ?_
  rintro e w13 ⟨rfl, rfl⟩
  rw [beq_self_eq_true]
  clear HX12 HY12
  go_wp2_with fail
  refine (num4_u _ _).mono ?_
  rintro e w99 ⟨rfl, rfl⟩
  go_wp2_with fail
  refine (num4_u _ _).mono ?_
  rintro e w99 ⟨rfl, rfl⟩
  go_wp2_with fail
  refine (num4_u _ _).mono ?_
  rintro e w99 ⟨rfl, rfl⟩
  have VS12 : Hid (Row w12 W.heap.size 23 [.int .i64 s.1, .int .i64 s.2.1, .int .i64 s.2.2.1, .int .i64 s.2.2.2.1, .int .i64 s.2.2.2.2.1, .int .i64 s.2.2.2.2.2.1, .int .i64 s.2.2.2.2.2.2]) := HS12.out
  clear cs0 cs1 cs2 cs3 cs4 cs5 cs6
  clear cd0 cd1 cd2 cd3 cd4 cd5 cd6
  clear ce0 ce1 ce2 ce3 ce4 ce5 ce6
  clear cu0 cu1 cu2 cu3 cu4 cu5 cu6
  clear cv0 cv1 cv2 cv3 cv4 cv5 cv6
  clear HS12 hw12 hq1 hq2
  go_wp2_with fail
  have S0 := Row.sevens VS12.out.drew
  go_region_held_law (fun w' : World => w'.cell? ⟨W.heap.size, 0, none⟩ = some (.int .i64 s.1) ∧ w'.cell? ⟨W.heap.size, 1, none⟩ = some (.int .i64 s.2.1) ∧ w'.cell? ⟨W.heap.size, 2, none⟩ = some (.int .i64 s.2.2.1) ∧ w'.cell? ⟨W.heap.size, 3, none⟩ = some (.int .i64 s.2.2.2.1) ∧ w'.cell? ⟨W.heap.size, 4, none⟩ = some (.int .i64 s.2.2.2.2.1) ∧ w'.cell? ⟨W.heap.size, 5, none⟩ = some (.int .i64 s.2.2.2.2.2.1) ∧ w'.cell? ⟨W.heap.size, 6, none⟩ = some (.int .i64 s.2.2.2.2.2.2))
    (first | exact S0 | exact S1 | exact S2 | exact S3)
    (first
    | (go_simp; go_at_call 18; refine (check4_u _ _ _ s (Rep.below HS0.out B12.out.drew)).mono ?_; rintro e w14 ⟨rfl, b14⟩
       have B1214 : Hid (Below w12.heap.size w12 w14) := below_of_drew b14
       have S1 := Row.sevens (VS12.out.below B1214.out)
       clear b14; go_simp)
    | (go_simp; go_at_call 17; refine (num4_u _ _).mono ?_; rintro e w99 ⟨rfl, rfl⟩; go_simp)
    | (go_simp; go_at_call 19; refine (refCheck4_u _ _ _ s (Rep.below HS0.out (on B12.out B1214.out))).mono ?_; rintro e w15 ⟨rfl, b15⟩
       have B1215 : Hid (Below w12.heap.size w12 w15) := on B1214.out b15
       have B15 : Hid (Below W.heap.size W w15) := on B12.out B1215.out
       have B215 : Hid (Below w2.heap.size w2 w15) := on B212.out B1215.out
       have S2 := Row.sevens (VS12.out.below B1215.out)
       clear b15; go_simp)
    | (go_simp; go_at_call_of 16 (Value.slice pa n pc); refine (sameBytes_any _ pa a n pc n c la la (HP2.out.below B215.out) (HA.out.below B15.out)).mono ?_
       rintro e w16 ⟨rfl, rfl⟩
       rw [beq_self_eq_true]; go_simp)
    | (go_simp; go_at_call_of 16 (Value.slice qa m qc); refine (sameBytes_any _ qa b m qc m d lb lb (HQ.out.below B215.out) (HB.out.below B15.out)).mono ?_
       rintro e w17 ⟨rfl, rfl⟩
       rw [beq_self_eq_true]; go_simp)
    | (go_simp; go_at_call 20; refine (alive4_u _).mono ?_; rintro e w18 ⟨rfl, b18⟩
       have B18 : Hid (Below W.heap.size W w18) := on B15.out b18
       have S3 := Row.sevens (VS12.out.below (on B1215.out b18))
       clear b18; go_simp))
  go_wp2
  go_ret
  exact ⟨rfl, B18.out⟩

set_option maxRecDepth 100000 in
theorem stells_lifted (os : Os) (started : os.Started) (H : Type) (enc : TypeId × Value → H) :
    ReturnsInHanded {} Try.checked os 3 .any (Rows.superTellsSpec.pre6 enc Try.prog Try.f3 Rows.superTellsRow.domain false) (Rows.superTellsSpec.post enc Try.prog Try.f3 false true false false) := by
  refine returnsInHanded_of_change_sized (C := Try.checked) own started (by kernel_rfl) Try.func3
    (ChangeSpec.witness6 (enc := enc) (C := Try.checked) false ⟨#[], #[.agg #[.int .i64 0, .int .i64 0, .int .i64 0, .int .i64 0, .int .i64 0, .int .i64 0, .int .i64 0], .slice none 0 0, .slice none 0 0], []⟩ 8 (by kernel_rfl) (by kernel_rfl) (by kernel_rfl) (by kernel_rfl)) ?_
  intro W base args ds gs before hval0 hW _ hsz0 _
  have hsz : (DataW.weightsEach Try.prog (Try.f3.params.toList ++ Rows.superTellsSpec.plain.varTypes Try.prog) (ds ++ gs)).all (· ≤ reachBytes) = true := hsz0
  clear hsz0
  have hval : ∀ (j : Nat) t v, Try.f3.params[j]? = some t → args[j]? = some v → Value.okWide Try.prog W .any base t v := hval0
  have hW' := hW
  obtain ⟨p, q, hA0, hV, rfl, hfz, hnd⟩ := hW
  have hA : DataW.TrodAll enc Try.prog W 0 (fun _ => true) true Try.f3.params.toList args.toList ds p := hA0
  rw [Try.params3] at hA hval hsz
  obtain ⟨v0, vs0, d0, ds0, p0, q0, hargs, rfl, rfl, h0, r0⟩ := trodAll_cons hA
  obtain ⟨v1, vs1, d1, ds1, p1, q1, rfl, rfl, rfl, h1, r1⟩ := trodAll_cons r0
  obtain ⟨v2, vs2, d2, ds2, p2, q2, rfl, rfl, rfl, h2, r2⟩ := trodAll_cons r1
  obtain ⟨rfl, rfl, rfl⟩ := trodAll_nil r2
  obtain rfl : args = #[v0, v1, v2] := by cases args; simp_all
  obtain ⟨rfl, rfl⟩ := trodVars_none hV
  obtain ⟨c0, rfl, -⟩ := okWide_struct Try.underlying23 (hval 0 23 v0 rfl rfl)
  have k0 := h0
  have lt0 : ∀ x ∈ p0, x.block < W.heap.size := by obtain ⟨m, hm⟩ := k0; exact DataW.trod_lt m _ _ _ hm
  obtain ⟨x0, hx0⟩ := opens_super.arg h0 hsz (j := 0) rfl rfl
  obtain ⟨a1, len1, cap1, rfl⟩ := okWide_slice Try.underlying24 (hval 1 24 v1 rfl rfl)
  have k1 := h1
  have lt1 : ∀ x ∈ p1, x.block < W.heap.size := by obtain ⟨m, hm⟩ := k1; exact DataW.trod_lt m _ _ _ hm
  obtain ⟨x1, hx1⟩ := opens_octets.arg h1 hsz (j := 1) rfl rfl
  obtain ⟨a2, len2, cap2, rfl⟩ := okWide_slice Try.underlying24 (hval 2 24 v2 rfl rfl)
  have k2 := h2
  have lt2 : ∀ x ∈ p2, x.block < W.heap.size := by obtain ⟨m, hm⟩ := k2; exact DataW.trod_lt m _ _ _ hm
  obtain ⟨x2, hx2⟩ := opens_octets.arg h2 hsz (j := 2) rfl rfl
  clear hA0 hval0
  refine (stells_walk c0.toList x0 a1 len1 cap1 x1 a2 len2 cap2 x2 W hx0 hx1 hx2).mono fun e W' ⟨he, bel⟩ => ?_
  subst he
  exact ⟨_, rfl, _, _, _, [], _, [], hW', trodAll_mk1 (shut_bool Try.underlying4 _), (trodAll_cons_mk (Below.trod laidOut (by kernel_rfl) (of_decide_eq_true (by kernel_rfl)) k0 bel lt0) (trodAll_cons_mk (Below.trod laidOut (by kernel_rfl) (of_decide_eq_true (by kernel_rfl)) k1 bel lt1) (trodAll_cons_mk (Below.trod laidOut (by kernel_rfl) (of_decide_eq_true (by kernel_rfl)) k2 bel lt2) trodAll_mk0))), rfl, bel.frame _, fun h => by cases h⟩

theorem superTells_holds : Rows.SuperTellsSaid :=
  OpenClaim.holds_of_wide 3 Try.f3 rfl rfl rfl rfl rfl rfl rfl ⟨rfl, rfl, rfl, rfl, rfl⟩ rfl rfl rfl rfl rfl (by kernel_rfl) Try.func3 (by kernel_rfl)
    (of_decide_eq_true (by kernel_rfl)) (by unfold Func.isWrapper; first | (rw [if_pos (by decide +kernel)]; kernel_rfl) | (rw [if_neg (by decide +kernel)]; exact ⟨rfl, rfl⟩))
    (fun os started H enc _ => stells_lifted os started H enc)

end Go.Proofs.Ytdgnkpmjjapmpaa
