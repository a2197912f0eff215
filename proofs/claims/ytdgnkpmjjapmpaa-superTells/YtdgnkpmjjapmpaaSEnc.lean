/-
  The contracts of the program's widths, numbersOf and Encode of a superblock. Conditions: those that each contract names.
-/
import Derived.Test.YtdgnkpmjjapmpaaSCheck
import Derived.Test.YtdgnkpmjjapmpaaOPack
import Derived.Test.YtdgnkpmjjapmpaaCrcCalls
import Derived.Deep.RegionHeldLaw
import Derived.Test.YtdgnkpmjjapmpaaSBytes
import Derived.Lib.SmallJoins
namespace Go.Proofs.Ytdgnkpmjjapmpaa
open Go.RowKit
set_option linter.unusedVariables false

set_option maxHeartbeats 1000000 in
theorem widths_l (w : World) :
    Calls Try.prog 24 #[] w fun e w' => e = .returned (.slice (some ⟨w.heap.size, 0, none⟩) 7 7) ∧ IsN .i64 w' (some ⟨w.heap.size, 0, none⟩) 7 Sup.widths ∧ Below w.heap.size w w' := by
  go_enter Try.func24, Try.ntmps24
  go_wp2
  go_ret
  exact ⟨rfl, (row_new w 3 (Sup.widths.map (Value.int .i64))).isN rfl, (Below.refl _ _).alloc (Nat.le_refl _) _⟩

set_option maxHeartbeats 1000000 in
theorem numbersOf_u (w : World) (a b c d e f g : Nat) (ha : a ≤ 1099511627776) (hb : b ≤ 1099511627776) (hc : c ≤ 1099511627776) (hd : d ≤ 1099511627776) (he : e ≤ 1099511627776) (hf : f ≤ 1099511627776) (hg : g ≤ 1099511627776) :
    Calls Try.prog 25 #[.agg #[.int .i64 a, .int .i64 b, .int .i64 c, .int .i64 d, .int .i64 e, .int .i64 f, .int .i64 g]] w fun x w' => ∃ q, x = .returned (.slice (some ⟨q, 0, none⟩) 7 7) ∧
      IsN .u64 w' (some ⟨q, 0, none⟩) 7 ([a, b, c, d, e, f, g].map fun (v : Nat) => (v : Int)) ∧ Below w.heap.size w w' := by
  obtain ⟨w0, hw0, V, bw0, -⟩ := boxedRow w 29 [.int .i64 a, .int .i64 b, .int .i64 c, .int .i64 d, .int .i64 e, .int .i64 f, .int .i64 g]
  obtain ⟨c0, c1, c2, c3, c4, c5, c6⟩ := V.seven
  clear V
  go_enter Try.func25, Try.ntmps25
  go_wp2
  go_ret
  exact ⟨w0.heap.size, rfl, (row_new w0 60 (([a, b, c, d, e, f, g].map fun (v : Nat) => (v : Int)).map (Value.int .u64))).isN rfl, bw0.alloc bw0.size _⟩

/-- 'copy' of a text into a row. -/
theorem copy_text {Pr : Program} (w : World) (dT sT ty : TypeId) (e : TypeId) (hu : Pr.underlying dT = some (.slice e)) (hsz : (Pr.info? e).map (·.size) = some 1)
    (g off dLen dCap : Nat) (l : List UInt8) (cur : List Value) (t : TypeId) (hg : Row w g t cur) (hle : l.length ≤ dLen) (hfit : off + l.length ≤ cur.length) :
    ∃ w', (Builtin.copy_ #[dT, sT] ty #[.slice (some ⟨g, off, none⟩) dLen dCap, .string ⟨l.toArray⟩]).run Pr w = .ok (goInt l.length) w' ∧ Row w' g t (splice cur off (cellsOf l)) ∧ Kept (· ≠ g) w w' ∧ w'.heap.size = w.heap.size := by
  have hlen : (cellsOf l).length = l.length := cellsOf_length l
  have hst := run_storeCells_at Pr g off t (cellsOf l) 0 cur.toArray w hg.eq (by rw [hlen]; simpa using hfit) (cellsOf_oneCell l)
  simp only [Nat.add_zero] at hst
  have hmin : Nat.min l.length dLen = l.length := Nat.min_eq_left hle
  refine ⟨w.setRow g (splice cur off (cellsOf l)).toArray, ?_, ⟨setRow_heap w g _ _ t _ hg.eq⟩, ⟨rfl, rfl, rfl, by simp, fun k hk => setRow_other w g k _ hk⟩, by simp⟩
  have hs : ByteArray.size ⟨l.toArray⟩ = l.length := by simp [ByteArray.size]
  have htk : List.take l.length (List.map (fun b : UInt8 => Value.int IntKind.u8 (b.toNat : Int)) l) = cellsOf l := by
    rw [List.take_of_length_le (by rw [List.length_map]; exact Nat.le_refl _)]
    rfl
  cases hq : Pr.info? e with
  | none => simp [hq] at hsz
  | some i =>
    simp [Builtin.copy_, run_underlying hu, Builtin.lenOf, Builtin.firstCells, Go.sizeOf, typeInfo, hq, hs, hmin]
    rw [htk, hst]
    simp [Result.andThen, splice]

theorem body_spliced (s : Super) (h : Sup.ok s = true) : splice (splice (List.replicate 60 (Value.int .u8 0)) 0 (cellsOf Sup.head)) 4 (cellsOf (Oct.packL Sup.widths (Sup.vals s))) = cellsOf (Sup.body s) := by
  have h1 := Sup.pack_length h
  rw [body_cells, cellsOf_append]
  have h36 : (cellsOf (Oct.packL Sup.widths (Sup.vals s))).length = 36 := by rw [cellsOf_length]; exact h1
  generalize cellsOf (Oct.packL Sup.widths (Sup.vals s)) = p at h36
  have h4 : (cellsOf Sup.head).length = 4 := by rw [cellsOf_length]; rfl
  generalize cellsOf Sup.head = q at h4
  have e1 : splice (List.replicate 60 (Value.int .u8 0)) 0 q = q ++ List.replicate 56 (Value.int .u8 0) := by
    unfold splice
    rw [List.take_zero, List.nil_append, Nat.zero_add, h4, List.drop_replicate]
  rw [e1]
  unfold splice
  rw [← h4, List.take_left, h36, List.drop_append, List.drop_eq_nil_of_le (by omega), List.nil_append, h4, List.drop_replicate, List.append_assoc]

set_option maxHeartbeats 4000000 in
theorem encode_ok (w : World) (P : Nat → Prop) (cs : List Value) (s : Super) (hS : rSuper.rd w P cs s) (h : Sup.ok s = true) :
    Calls Try.prog 10 #[.agg cs.toArray] w fun e w' => ∃ a c, e = .returned (.tuple #[.slice a 64 c, .int .i64 0]) ∧ w'.ownsRow w.heap.size 5 1 (.slice a 64 c) 64 (cellsOf (Sup.enc s)) ∧ Below w.heap.size w w' := by
  have hS' : Hid _ := hS
  obtain ⟨a, b, c, d, e, f, g, rfl, rfl⟩ := rSuper_rd hS
  clear hS
  obtain ⟨⟨a1, a2⟩, ⟨b1, b2⟩, ⟨c1, c2⟩, ⟨d1, d2⟩, ⟨e1, e2⟩, ⟨f1, f2⟩, g1, g2⟩ := Sup.ok_iff.1 h
  simp only at a1 a2 b1 b2 c1 c2 d1 d2 e1 e2 f1 f2 g1 g2
  obtain ⟨a, rfl⟩ := Int.eq_ofNat_of_zero_le a1
  obtain ⟨b, rfl⟩ := Int.eq_ofNat_of_zero_le b1
  obtain ⟨c, rfl⟩ := Int.eq_ofNat_of_zero_le (show 0 ≤ c by omega)
  obtain ⟨d, rfl⟩ := Int.eq_ofNat_of_zero_le (show 0 ≤ d by omega)
  obtain ⟨e, rfl⟩ := Int.eq_ofNat_of_zero_le e1
  obtain ⟨f, rfl⟩ := Int.eq_ofNat_of_zero_le f1
  obtain ⟨g, rfl⟩ := Int.eq_ofNat_of_zero_le g1
  have HN : Hid _ := Sup.pack_ok h
  have HL : Hid _ := Sup.pack_length h
  have hv : Sup.vals ((a : Int), (b : Int), (c : Int), (d : Int), (e : Int), (f : Int), (g : Int)) = [a, b, c, d, e, f, g] := rfl
  rw [hv] at HN HL
  clear hv
  have H : Hid _ := h
  clear h a1 b1 c1 d1 e1 f1 g1
  obtain ⟨w0, hw0, V, bw0, -⟩ := boxedRow w 29 [.int .i64 a, .int .i64 b, .int .i64 c, .int .i64 d, .int .i64 e, .int .i64 f, .int .i64 g]
  obtain ⟨c0, c1, c2', c3, c4, c5, c6⟩ := V.seven
  go_enter Try.func10, Try.ntmps10
  go_wp2_with fail
  refine (check4_u _ _ _ _ (Rep.below hS'.out bw0)).mono ?_
  rintro ex w1 ⟨rfl, bw1⟩
  rw [show Sup.checkE (a, b, c, d, e, f, g) = 0 from by unfold Sup.checkE; rw [H.out]; rfl]
  have V1 : Hid (Row _ _ _ _) := V.below bw1
  have BW : Hid (Below _ _ _) := on bw0 bw1
  clear c0 c1 c2' c3 c4 c5 c6 V bw1
  obtain ⟨c0, c1, c2', c3, c4, c5, c6⟩ := V1.out.seven
  go_wp2_with fail
  have S0 := V1.out.drew.seven
  clear hw0 bw0
  go_region_held_law (fun w' : World => w'.cell? ⟨w.heap.size, 0, none⟩ = some (.int .i64 a) ∧ w'.cell? ⟨w.heap.size, 1, none⟩ = some (.int .i64 b) ∧ w'.cell? ⟨w.heap.size, 2, none⟩ = some (.int .i64 c) ∧ w'.cell? ⟨w.heap.size, 3, none⟩ = some (.int .i64 d) ∧ w'.cell? ⟨w.heap.size, 4, none⟩ = some (.int .i64 e) ∧ w'.cell? ⟨w.heap.size, 5, none⟩ = some (.int .i64 f) ∧ w'.cell? ⟨w.heap.size, 6, none⟩ = some (.int .i64 g))
    (first | exact S0 | exact S1 | exact S2 | exact S3)
    (first
    | (go_simp; go_at_call 24; refine (widths_l _).mono ?_; rintro ey w2 ⟨rfl, hW, bw2⟩; have HW : Hid (IsN _ _ _ _ _) := hW; clear hW; have BW2 : Hid (Below w1.heap.size w1 w2) := below_of_drew bw2; clear bw2
       have V2 : Hid (Row w2 w.heap.size 29 [.int .i64 a, .int .i64 b, .int .i64 c, .int .i64 d, .int .i64 e, .int .i64 f, .int .i64 g]) := V1.out.below BW2.out
       have S1 := V2.out.seven; go_simp)
    | (go_simp; go_at_call 25; refine (numbersOf_u _ a b c d e f g (by omega) (by omega) (by omega) (by omega) (by omega) (by omega) (by omega)).mono ?_; rintro ey w3 ⟨q, rfl, hQ, bw3⟩; have HQ : Hid (IsN _ _ _ _ _) := hQ; clear hQ
       have BW3 : Hid (Below w2.heap.size w2 w3) := bw3
       clear bw3
       have S2 := (V2.out.below BW3.out).seven; go_simp)
    | (go_simp; go_at_call 23; refine (pack_in _ _ _ 7 7 7 Sup.widths [a, b, c, d, e, f, g] (by decide) (HW.out.below BW3.out) HQ.out).mono ?_
       rintro ez w4 ⟨pa, pn, pc, rfl, hP0, bw4⟩
       rw [HN.out]
       obtain rfl : pn = 36 := (owns_len hP0).trans HL.out
       have BW4 : Hid (Below w.heap.size w w4) := on (on (on BW.out BW2.out) BW3.out) bw4
       have HP : Hid (w4.ownsRow w3.heap.size 5 1 (.slice pa 36 pc) 36 (cellsOf (Oct.packL Sup.widths [a, b, c, d, e, f, g]))) := hP0
       have S3 := ((V2.out.below BW3.out).below bw4).seven
       clear hP0 bw4; go_simp))
  clear S0 S1 S2 S3 HW HQ V1 V2 BW BW2 BW3 c0 c1 c2' c3 c4 c5 c6
  obtain ⟨hPB, hPc, hPn⟩ := owns_isB HP.out
  obtain ⟨pb, po, rfl, -⟩ := hPB.place (by decide)
  have HPB : Hid (IsB _ _ _ _) := hPB
  clear hPB HP hPn
  go_wp2_with (at_make; refine make_row _ rfl _ _ 24 rfl 5 (.int .u8 0) 1 Try.underlying24 info_u8 rfl 60 _ rfl rfl rfl (by decide) (by decide) ?_; intro w5 HR b5 z5)
  obtain ⟨w6, hrun, HR6, k6, z6⟩ := copy_text (Pr := Try.prog) w5 24 9 3 5 Try.underlying24 (by kernel_rfl) w4.heap.size 0 60 60 Sup.head _ 5 HR.out (by decide) (by decide)
  have hrun' : (Builtin.copy_ #[24, 9] 3 #[.slice (some ⟨w4.heap.size, 0, none⟩) 60 60, .string ⟨#[102, 115, 116, 49]⟩]).run Try.prog w5 = .ok (.int .i64 4) w6 := hrun
  have b6 : Below w4.heap.size w4 w6 := Kept.belowOf b5 k6 (Nat.le_refl _)
  have HR7 : Hid (Row _ _ _ _) := HR6
  rw [hrun']
  clear hrun hrun' HR6 HR b5 z5 k6 z6
  go_wp2
  obtain ⟨w8, hrun, HR8, k8, z8⟩ := copy_run (Pr := Try.prog) w6 24 24 3 5 Try.underlying24 (by kernel_rfl) (some ⟨w4.heap.size, 4, none⟩) (some ⟨pb, po, none⟩) 56 56 36 pc w4.heap.size 4 _ 5 HR7.out (cellsOf (Oct.packL Sup.widths [a, b, c, d, e, f, g])) (by rw [cellsOf_length, HL.out]; rfl) (fun _ => ⟨rfl, _, rfl, isB_cells (HPB.out.below b6)⟩) (by rw [cellsOf_length, HL.out]; decide) (cellsOf_oneCell _)
  have b8 : Below w4.heap.size w4 w8 := Kept.belowOf b6 k8 (Nat.le_refl _)
  have HR9 : Hid (Row w8 w4.heap.size 5 (cellsOf (Sup.body ((a : Int), (b : Int), (c : Int), (d : Int), (e : Int), (f : Int), (g : Int))))) := by rw [← body_spliced _ H.out]; exact HR8
  rw [hrun]
  clear hrun HR8 HR7 k8 z8 b6
  have HB9 : Hid (IsB w8 (some ⟨w4.heap.size, 0, none⟩) 60 (Sup.body ((a : Int), (b : Int), (c : Int), (d : Int), (e : Int), (f : Int), (g : Int)))) := HR9.out.isB (Sup.body_length H.out)
  go_wp2_with fail
  refine (seal_said _ _ 60 _ _ (by decide) (by decide) (fun h => by cases h) HB9.out).mono ?_
  rintro ey w9 ⟨b9, d9, rfl, ho9, bw9⟩
  have HO : Hid _ := owns_mono ho9 (on BW4.out b8).size
  clear ho9
  go_wp2
  go_ret2
  exact ⟨b9, d9, rfl, HO.out, on (on BW4.out b8) bw9⟩

set_option maxHeartbeats 1000000 in
theorem encode_no (w : World) (P : Nat → Prop) (cs : List Value) (s : Super) (hS : rSuper.rd w P cs s) (h : Sup.ok s = false) :
    Calls Try.prog 10 #[.agg cs.toArray] w fun e w' => e = .returned (.tuple #[.slice none 0 0, .int .i64 4]) ∧ Below w.heap.size w w' := by
  have hS' : Hid _ := hS
  obtain ⟨a, b, c, d, e, f, g, rfl, rfl⟩ := rSuper_rd hS
  clear hS
  have H : Hid _ := h
  clear h
  obtain ⟨w0, hw0, V, bw0, -⟩ := boxedRow w 29 [.int .i64 a, .int .i64 b, .int .i64 c, .int .i64 d, .int .i64 e, .int .i64 f, .int .i64 g]
  have c0 := V.cell (j := 0) rfl
  have c1 := V.cell (j := 1) rfl
  have c2 := V.cell (j := 2) rfl
  have c3 := V.cell (j := 3) rfl
  have c4 := V.cell (j := 4) rfl
  have c5 := V.cell (j := 5) rfl
  have c6 := V.cell (j := 6) rfl
  go_enter Try.func10, Try.ntmps10
  go_wp2_with fail
  refine (check4_u _ _ _ _ (Rep.below hS'.out bw0)).mono ?_
  rintro ex w1 ⟨rfl, bw1⟩
  rw [show Sup.checkE (a, b, c, d, e, f, g) = 4 from by unfold Sup.checkE; rw [H.out]; rfl]
  clear c0 c1 c2 c3 c4 c5 c6 V
  go_wp2
  go_ret2
  exact ⟨rfl, on bw0 bw1⟩

theorem encode_u (w : World) (P : Nat → Prop) (cs : List Value) (s : Super) (hS : rSuper.rd w P cs s) :
    Calls Try.prog 10 #[.agg cs.toArray] w fun e w' => ∃ a n c, e = .returned (.tuple #[.slice a n c, .int .i64 (Sup.checkE s)]) ∧ w'.ownsRow w.heap.size 5 1 (.slice a n c) n (cellsOf (Sup.encodeL s)) ∧ Below w.heap.size w w' := by
  cases h : Sup.ok s
  · refine (encode_no w P cs s hS h).mono ?_
    rintro e w' ⟨rfl, b1⟩
    refine ⟨none, 0, 0, ?_, ?_, b1⟩
    · unfold Sup.checkE; rw [h]; rfl
    · unfold Sup.encodeL; rw [h]; exact own_nil _ _
  · refine (encode_ok w P cs s hS h).mono ?_
    rintro e w' ⟨a, c, rfl, ho, b1⟩
    refine ⟨a, 64, c, ?_, ?_, b1⟩
    · unfold Sup.checkE; rw [h]; rfl
    · unfold Sup.encodeL; rw [h]; exact ho

end Go.Proofs.Ytdgnkpmjjapmpaa
