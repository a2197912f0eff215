/-
  The contracts of the document's own widths and Encode of a superblock. Conditions: those that each contract names.
-/
import Derived.Test.YtdgnkpmjjapmpaaRSPlaces
import Derived.Test.YtdgnkpmjjapmpaaORefPack
import Derived.Test.YtdgnkpmjjapmpaaRefSeal
import Derived.Deep.RegionHeldLaw
import Derived.Test.YtdgnkpmjjapmpaaSBytes
import Derived.Lib.SmallJoins
import Derived.Lib.SlBytesConst
namespace Go.Proofs.Ytdgnkpmjjapmpaa
open Go.RowKit
set_option linter.unusedVariables false

set_option maxHeartbeats 1000000 in
theorem widths_u (w : World) :
    Calls Try.prog 28 #[] w fun e w' => e = .returned (.slice (some ⟨w.heap.size, 0, none⟩) 7 7) ∧ IsN .i64 w' (some ⟨w.heap.size, 0, none⟩) 7 Sup.widths ∧ Below w.heap.size w w' := by
  go_enter Try.func28, Try.ntmps28
  go_wp2
  go_ret
  exact ⟨rfl, (row_new w 3 (Sup.widths.map (Value.int .i64))).isN rfl, (Below.refl _ _).alloc (Nat.le_refl _) _⟩

set_option maxHeartbeats 2000000 in
theorem refEncode_ok (w : World) (P : Nat → Prop) (cs : List Value) (s : Super) (hS : rSuper.rd w P cs s) (h : Sup.ok s = true) :
    Calls Try.prog 11 #[.agg cs.toArray] w fun e w' => ∃ a c, e = .returned (.tuple #[.slice a 64 c, .int .i64 0]) ∧ w'.ownsRow w.heap.size 5 1 (.slice a 64 c) 64 (cellsOf (Sup.enc s)) ∧ Below w.heap.size w w' := by
  have hS' : Hid _ := hS
  obtain ⟨a, b, c, d, e, f, g, rfl, rfl⟩ := rSuper_rd hS
  clear hS
  obtain ⟨⟨a1, a2⟩, ⟨b1, b2⟩, ⟨c1, c2⟩, ⟨d1, d2⟩, ⟨e1, e2⟩, ⟨f1, f2⟩, g1, g2⟩ := Sup.ok_iff.1 h
  simp only at a1 a2 b1 b2 c1 c2 d1 d2 e1 e2 f1 f2 g1 g2
  obtain ⟨a, rfl⟩ := Int.eq_ofNat_of_zero_le a1
  obtain ⟨b, rfl⟩ := Int.eq_ofNat_of_zero_le b1
  obtain ⟨c, rfl⟩ := Int.eq_ofNat_of_zero_le (show 0 ≤ c by omega)
  obtain ⟨d, rfl⟩ := Int.eq_ofNat_of_zero_le (show 0 ≤ d by omega)
  obtain ⟨e, rfl⟩ := Int.eq_ofNat_of_zero_le e1
  obtain ⟨f, rfl⟩ := Int.eq_ofNat_of_zero_le f1
  obtain ⟨g, rfl⟩ := Int.eq_ofNat_of_zero_le g1
  have HN : Hid _ := Sup.pack_ok h
  have HL : Hid _ := Sup.pack_length h
  have hv : Sup.vals ((a : Int), (b : Int), (c : Int), (d : Int), (e : Int), (f : Int), (g : Int)) = [a, b, c, d, e, f, g] := rfl
  rw [hv] at HN HL
  clear hv
  have H : Hid _ := h
  clear h a1 b1 c1 d1 e1 f1 g1
  obtain ⟨w0, hw0, V, bw0, -⟩ := boxedRow w 23 [.int .i64 a, .int .i64 b, .int .i64 c, .int .i64 d, .int .i64 e, .int .i64 f, .int .i64 g]
  obtain ⟨c0, c1, c2', c3, c4, c5, c6⟩ := V.seven
  go_enter Try.func11, Try.ntmps11
  go_wp2_with fail
  refine (refCheck4_u _ _ _ _ (Rep.below hS'.out bw0)).mono ?_
  rintro ex w1 ⟨rfl, bw1⟩
  rw [show Sup.checkE (a, b, c, d, e, f, g) = 0 from by unfold Sup.checkE; rw [H.out]; rfl]
  have V1 : Hid (Row _ _ _ _) := V.below bw1
  have BW : Hid (Below _ _ _) := on bw0 bw1
  clear c0 c1 c2' c3 c4 c5 c6 V bw1
  obtain ⟨c0, c1, c2', c3, c4, c5, c6⟩ := V1.out.seven
  go_wp2_with fail
  have S0 := V1.out.drew.seven
  clear hw0 bw0
  go_region_held_law (fun w' : World => w'.cell? ⟨w.heap.size, 0, none⟩ = some (.int .i64 a) ∧ w'.cell? ⟨w.heap.size, 1, none⟩ = some (.int .i64 b) ∧ w'.cell? ⟨w.heap.size, 2, none⟩ = some (.int .i64 c) ∧ w'.cell? ⟨w.heap.size, 3, none⟩ = some (.int .i64 d) ∧ w'.cell? ⟨w.heap.size, 4, none⟩ = some (.int .i64 e) ∧ w'.cell? ⟨w.heap.size, 5, none⟩ = some (.int .i64 f) ∧ w'.cell? ⟨w.heap.size, 6, none⟩ = some (.int .i64 g))
    (first | exact S0 | exact S1 | exact S2 | exact (V1.out.alloc _).seven | exact (V1.out.alloc _).drew.seven | exact (V2.out.alloc _).seven)
    (first
    | (go_simp; go_at_call 28; refine (widths_u _).mono ?_; rintro ey w2 ⟨rfl, hW, bw2⟩; have HW : Hid (IsN _ _ _ _ _) := hW; clear hW; have BW2 : Hid (Below _ _ _) := bw2; clear bw2
       have V2 : Hid (Row w2 w.heap.size 23 [.int .i64 a, .int .i64 b, .int .i64 c, .int .i64 d, .int .i64 e, .int .i64 f, .int .i64 g]) := (by first | exact Row.below V1.out.drew BW2.out | exact Row.below (V1.out.alloc _).drew BW2.out)
       have S1 := V2.out.seven; go_simp)
    | (go_simp; go_at_call 27
       refine (refPack_in _ _ _ 7 7 7 Sup.widths [a, b, c, d, e, f, g] (by decide) (by intro v hv; simp at hv; omega) (by first | exact HW.out | exact HW.out.below ((Below.refl _ _).alloc (Nat.le_refl _) _) | (have h := HW.out; simpa using h)) (by first | exact nums7 _ _ a b c d e f g (by omega) (by omega) (by omega) (by omega) (by omega) (by omega) (by omega) | exact IsN.below (show IsN .u64 (World.drew (w1.alloc _)) _ _ _ from nums7 _ _ a b c d e f g (by omega) (by omega) (by omega) (by omega) (by omega) (by omega) (by omega)) BW2.out)).mono ?_
       rintro ez w3 ⟨pa, pn, pc, rfl, hP0, bw3⟩
       rw [HN.out]
       obtain rfl : pn = 36 := (owns_len hP0).trans HL.out
       have BW3 : Hid (Below w.heap.size w w3) := (by first | exact on (on (on BW.out.drew BW2.out) ((Below.refl _ _).alloc (Nat.le_refl _) _)) bw3 | exact on (on (alloc_on BW.out _).drew BW2.out) bw3)
       have HP : Hid (w3.ownsRow w.heap.size 5 1 (.slice pa 36 pc) 36 (cellsOf (Oct.packL Sup.widths [a, b, c, d, e, f, g]))) := owns_mono hP0 (by first | exact (on (on BW.out.drew BW2.out) ((Below.refl _ _).alloc (Nat.le_refl _) _)).size | exact (on (alloc_on BW.out _).drew BW2.out).size)
       have S2 := (by first | exact ((V2.out.alloc _).below bw3).seven | exact (V2.out.below bw3).seven)
       clear hP0 bw3; go_simp))
  all_goals clear S0 S1 S2 HW V1 V2 BW BW2 c0 c1 c2' c3 c4 c5 c6
  all_goals have kc := fun (w : World) (C : Array Value) (n c : Nat) => Lib.run_convert_bytes_const (P := Try.prog) w 24 5 C n c Try.underlying24 Try.underlying5
  all_goals obtain ⟨hPB, hPc, hPn⟩ := owns_isB HP.out
  all_goals obtain ⟨pb, po, rfl, -⟩ := hPB.place (by decide)
  all_goals obtain ⟨i0, hi, hz0, hz1, hz2⟩ := info_parts info_u8
  all_goals have h36 : (cellsOf (Oct.packL Sup.widths [a, b, c, d, e, f, g])).length = 36 := by rw [cellsOf_length]; exact HL.out
  all_goals obtain ⟨b4, d4, w4, hr4, ho4, bb4⟩ := run_append_new (P := Try.prog) (w3.alloc (.cells (cellsOf Sup.head).toArray 5 (4, 5))) 24 24 5 i0 (.int .u8 0) 1 Try.underlying24 hi hz0 hz1 hz2 rfl ⟨w3.heap.size, 0, none⟩ 4 4 (cellsOf Sup.head) rfl (fun j v hv => by rw [Addr.add_lit, Nat.zero_add, World.cell?_alloc_mark]; simpa using hv) ⟨pb, po, none⟩ 36 pc (cellsOf (Oct.packL Sup.widths [a, b, c, d, e, f, g])) h36 (fun j v hv => isB_cells (hPB.below ((Below.refl _ _).alloc (Nat.le_refl _) _)) j v hv) (by decide) (by decide) (by decide)
  all_goals have ho40 : w4.ownsRow w.heap.size 5 1 (.slice b4 40 d4) 40 (cellsOf (Sup.head ++ Oct.packL Sup.widths [a, b, c, d, e, f, g])) := by rw [cellsOf_append]; exact owns_mono ho4 (alloc_on BW3.out _).size
  all_goals have BW4 : Hid (Below w.heap.size w w4) := on (alloc_on BW3.out _) bb4
  all_goals clear ho4 bb4
  all_goals have HR4 : Hid _ := hr4
  all_goals clear hr4
  all_goals obtain ⟨b5, d5, w5, hr5, ho5, bg5⟩ := run_append_zeros (P := Try.prog) w4 w.heap.size 24 3 24 5 i0 (.int .u8 0) .i64 .i64 1 Try.underlying24 Try.underlying3 hi hz0 hz1 hz2 rfl rfl _ 40 _ ho40 20 (by decide) (by decide) (by decide) BW4.out.size
  all_goals have HR5 : Hid _ := hr5
  all_goals have BW5 : Hid (Below w.heap.size w w5) := BW4.out.grown bg5 BW4.out.size (fun k hk => own_base ho40 k hk)
  all_goals have HO : Hid (w5.ownsRow w.heap.size 5 1 (.slice b5 60 d5) 60 (cellsOf (Sup.body ((a : Int), (b : Int), (c : Int), (d : Int), (e : Int), (f : Int), (g : Int))))) := by rw [body_cells]; exact ho5
  all_goals clear i0 hi hz0 hz1 hz2 hPc hPn h36 hPB hr5 ho5 bg5 ho40
  all_goals go_wp2_with (at_builtin; first | refine Lib.wpList_append_run _ rfl _ _ _ _ rfl _ _ rfl rfl _ _ HR4.out ?_ | refine Lib.wpList_append_run _ rfl _ _ _ _ rfl _ _ rfl rfl _ _ HR5.out ?_)
  all_goals obtain ⟨hB5, hc5, hn5⟩ := owns_isB HO.out
  all_goals refine (refSeal_u _ _ 60 _ _ (by decide) hn5 hB5).mono ?_
  all_goals rintro ey w6 ⟨b6, d6, rfl, ho6, bw6⟩
  all_goals have HO6 : Hid _ := ho6
  all_goals clear ho6 HR4 HR5 HO hB5 hn5 hc5 kc
  all_goals go_wp2
  all_goals go_ret2
  all_goals exact ⟨b6, d6, rfl, owns_mono HO6.out BW5.out.size, on BW5.out bw6⟩

set_option maxHeartbeats 1000000 in
theorem refEncode_no (w : World) (P : Nat → Prop) (cs : List Value) (s : Super) (hS : rSuper.rd w P cs s) (h : Sup.ok s = false) :
    Calls Try.prog 11 #[.agg cs.toArray] w fun e w' => e = .returned (.tuple #[.slice none 0 0, .int .i64 4]) ∧ Below w.heap.size w w' := by
  have hS' : Hid _ := hS
  obtain ⟨a, b, c, d, e, f, g, rfl, rfl⟩ := rSuper_rd hS
  clear hS
  have H : Hid _ := h
  clear h
  obtain ⟨w0, hw0, V, bw0, -⟩ := boxedRow w 23 [.int .i64 a, .int .i64 b, .int .i64 c, .int .i64 d, .int .i64 e, .int .i64 f, .int .i64 g]
  have c0 := V.cell (j := 0) rfl
  have c1 := V.cell (j := 1) rfl
  have c2 := V.cell (j := 2) rfl
  have c3 := V.cell (j := 3) rfl
  have c4 := V.cell (j := 4) rfl
  have c5 := V.cell (j := 5) rfl
  have c6 := V.cell (j := 6) rfl
  go_enter Try.func11, Try.ntmps11
  go_wp2_with fail
  refine (refCheck4_u _ _ _ _ (Rep.below hS'.out bw0)).mono ?_
  rintro ex w1 ⟨rfl, bw1⟩
  rw [show Sup.checkE (a, b, c, d, e, f, g) = 4 from by unfold Sup.checkE; rw [H.out]; rfl]
  clear c0 c1 c2 c3 c4 c5 c6 V
  go_wp2
  go_ret2
  exact ⟨rfl, on bw0 bw1⟩

theorem refEncode_u (w : World) (P : Nat → Prop) (cs : List Value) (s : Super) (hS : rSuper.rd w P cs s) :
    Calls Try.prog 11 #[.agg cs.toArray] w fun e w' => ∃ a n c, e = .returned (.tuple #[.slice a n c, .int .i64 (Sup.checkE s)]) ∧ w'.ownsRow w.heap.size 5 1 (.slice a n c) n (cellsOf (Sup.encodeL s)) ∧ Below w.heap.size w w' := by
  cases h : Sup.ok s
  · refine (refEncode_no w P cs s hS h).mono ?_
    rintro e w' ⟨rfl, b1⟩
    refine ⟨none, 0, 0, ?_, ?_, b1⟩
    · unfold Sup.checkE; rw [h]; rfl
    · unfold Sup.encodeL; rw [h]; exact own_nil _ _
  · refine (refEncode_ok w P cs s hS h).mono ?_
    rintro e w' ⟨a, c, rfl, ho, b1⟩
    refine ⟨a, 64, c, ?_, ?_, b1⟩
    · unfold Sup.checkE; rw [h]; rfl
    · unfold Sup.encodeL; rw [h]; exact ho

end Go.Proofs.Ytdgnkpmjjapmpaa
