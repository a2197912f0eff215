/-
  The landed extent: Move, at whatever map, span and place: the walk. Conditions: those that each contract names.
-/
import Derived.Test.YtlpmfbinemmikaaXV
namespace Go.Proofs.Ytlpmfbinemmikaa
open Go.RowKit Go.Lib
set_option linter.unusedVariables false

theorem Row.two {w : World} {b : Nat} {t : TypeId} {x0 x1 : Value} (V : Row w b t [x0, x1]) : w.cell? ⟨b, 0, none⟩ = some x0 ∧ w.cell? ⟨b, 1, none⟩ = some x1 := ⟨V.cell (j := 0) rfl, V.cell (j := 1) rfl⟩

set_option maxHeartbeats 4000000 in
theorem move1_writes (w : World) (N : Nat) (a : Option Addr) (n c : Nat) (l : List Ext) (hL : rExts.rd w (fun b => b < N) [.slice a n c] l) (hO : Ex.Ok l) (x : Spn) (t : Int) (hx : Ex.Fits x.1 x.2) (ht : Ex.Fits t x.2) (T X A : Nat) (hT : N ≤ T) (hX : N ≤ X) (hA : A < w.heap.size)
    (VT : Row w T 3 [.int .i64 t]) (VX : Row w X 44 [.int .i64 x.1, .int .i64 x.2]) (h0 : w.cell? ⟨A, 0, none⟩ = some (.slice a n c)) :
    Writes 45 #[.pointer (some ⟨T, 0, none⟩), .pointer (some ⟨X, 0, none⟩), .pointer (some ⟨A, 0, none⟩)] w (Ex.movePs l x.1 x.2 t) := by
  intro f bs J S w1 L hJ b1 hS
  obtain ⟨hl, hnc, hnil, hb⟩ := rList_len hL
  have hn : n ≤ 1024 := by have := hO.1; omega
  have HL : Hid (l.length = n) := hl
  have HO : Hid (∀ y ∈ l, Ex.One y) := hO.2.1
  have HBits : Hid (Ex.Bits (Ex.movePs l x.1 x.2 t)) := (Ex.movePs_bits hO hx ht).1
  have LM := movedLayer L T X w1.heap.size t x hx ht
  have L2 := L.beside (F := MoveVars T X w1.heap.size t x f bs) (D := fun k => k = T ∨ k = X ∨ k = w1.heap.size) (fun h hk => h.keep hk) (fun h => h.lt)
  have HM : Hid (Layer _ _ _ _) := LM
  have H2 : Hid (Layer _ _ _ _) := L2
  obtain ⟨w2, hw2, V2, b2, z2⟩ := boxedRow w1 59 [.func (.func f) #[] bs]
  have hlow := L.low hJ
  have hTl := VT.lt
  have hXl := VX.lt
  have hs1 := b1.size
  have HJ2 : Hid (Beside J (MoveVars T X w1.heap.size t x f bs) (fun k => k = T ∨ k = X ∨ k = w1.heap.size) [] (fun k => S k ∨ (k = T ∨ k = X ∨ k = w1.heap.size)) w2) :=
    ⟨S, L.below hJ b2, ⟨(VT.below b1).below b2, (VX.below b1).below b2, V2⟩, fun k => Iff.rfl, by
      rintro k (rfl | rfl | rfl) hk
      · have := hS _ hk; omega
      · have := hS _ hk; omega
      · have := hlow _ hk; omega⟩
  have HVT : Hid (Row w1 T 3 [.int .i64 t]) := VT.below b1
  have HVX : Hid (Row w1 X 44 [.int .i64 x.1, .int .i64 x.2]) := VX.below b1
  have B12 : Hid (Below w1.heap.size w1 w2) := b2
  have B02 : Hid (Below w.heap.size w w2) := on b1 b2
  have e0 : w2.cell? ⟨A, 0, none⟩ = some (.slice a n c) := (B02.out.cell (p := ⟨A, 0, none⟩) hA).trans h0
  have HR2 : Hid (rExts.rd w2 (fun b => b < N) [.slice a n c] l) := Rep.below hL B02.out
  have HN : Hid (∀ b, b < N → b < w.heap.size → ¬ (S b ∨ (b = T ∨ b = X ∨ b = w1.heap.size))) := by
    rintro b hb hbw (hk | rfl | rfl | rfl)
    · have := hS _ hk; omega
    · omega
    · omega
    · omega
  have HSZ : Hid (w.heap.size ≤ w2.heap.size) := B02.out.size
  have HRw : Hid (rExts.rd w (fun b => b < N) [.slice a n c] l) := hL
  obtain ⟨S20, hS20⟩ : ∃ S20 : Nat → Prop, S20 = fun k => S k ∨ (k = T ∨ k = X ∨ k = w1.heap.size) := ⟨_, rfl⟩
  rw [← hS20] at HJ2
  have HN2 : Hid (∀ b, b < N → b < w.heap.size → ¬ S20 b) := by rw [hS20]; exact HN.out
  have HDone : Hid (∀ {ps S3 w3}, Beside J (MoveVars T X w1.heap.size t x f bs) (fun k => k = T ∨ k = X ∨ k = w1.heap.size) ps S3 w3 → Turns S20 S3 w2 w3 → ∃ S', J ps S' w3 ∧ Turns S S' w1 w3) := by
    rintro ps S3 w3 ⟨S', hj, hf, h3, hd⟩ hT3
    refine ⟨S', hj, ⟨hT3.os.trans b2.os, hT3.tape.trans b2.tape, hT3.output.trans b2.output, Nat.le_trans b2.size hT3.size, fun k hk hn => ?_, fun k hk => ?_⟩⟩
    · by_cases h1 : k = T
      · subst h1; exact hf.to.eq.trans HVT.out.eq.symm
      · by_cases h2 : k = X
        · subst h2; exact hf.span.eq.trans HVX.out.eq.symm
        · rw [hT3.block k (Nat.lt_of_lt_of_le hk b2.size) (by rw [hS20]; rintro (h | h | h | h) <;> first | exact hn h | exact h1 h | exact h2 h | omega), b2.block k hk]
    · have hnd : ¬ (k = T ∨ k = X ∨ k = w1.heap.size) := fun h => hd k h hk
      rcases hT3.place k ((h3 k).2 (.inl hk)) with h | h
      · rw [hS20] at h
        exact h.imp id (fun h => absurd h hnd)
      · exact .inr (Nat.le_trans b2.size h)
  have HXF : Hid (Ex.Fits x.1 x.2) := hx
  unfold Ex.Fits at hx ht
  obtain ⟨f1, f2, f3, f4⟩ := hx
  obtain ⟨t1, t2, t3, t4⟩ := ht
  have m2 : Hid (MoveVars T X w1.heap.size t x f bs w2) := by obtain ⟨S', -, h, -, -⟩ := HJ2.out.ex; exact h
  clear hl hnil hb hL hO LM L2 V2 b2 z2 L hJ b1 hS hlow VT VX h0 hTl hXl hs1 hS20
  go_enter Try.func45, Try.ntmps45
  go_wp2
  go_loopw [13] (fun i wr => ∃ j : Nat, j ≤ n ∧ i = .int .i64 j ∧ Hid (∃ S', Beside J (MoveVars T X w1.heap.size t x f bs) (fun k => k = T ∨ k = X ∨ k = w1.heap.size) ((l.take j).flatMap (Ex.mOne x.1 x.2 t)) S' wr ∧ Turns S20 S' w2 wr)) (fun i _ => n - (intOf i).toNat)
  case atStart => exact ⟨0, Nat.zero_le _, rfl, S20, HJ2.out, Turns.of (Below.refl _ _)⟩
  case round =>
    obtain ⟨j, hj, rfl, HI⟩ := hrel
    obtain ⟨S1, hJ1, hT1⟩ := HI.out
    by_cases hlt : j < n
    · have hkl : j < l.length := by rw [HL.out]; exact hlt
      obtain ⟨g, off, rfl, hPg, hgl, hat⟩ := rExts_at HR2.out (by omega)
      obtain ⟨g', off', eg', hPg', hgl', -⟩ := rExts_at HRw.out (by omega)
      simp only [Option.some.injEq, Addr.mk.injEq, and_true] at eg'
      obtain ⟨rfl, rfl⟩ := eg'
      have HNS : Hid (¬ S20 g) := HN2.out g hPg hgl'
      obtain ⟨c0, c1, c2, -⟩ := hat j hkl
      have y0 : wr.cell? ⟨g, off + j * 3, none⟩ = some (.int .i64 l[j].1) := (hT1.cell (p := ⟨g, off + j * 3, none⟩) hgl HNS.out).trans c0
      have y1 : wr.cell? ⟨g, off + j * 3 + 1, none⟩ = some (.int .i64 l[j].2.1) := (hT1.cell (p := ⟨g, off + j * 3 + 1, none⟩) hgl HNS.out).trans c1
      have y2 : wr.cell? ⟨g, off + j * 3 + 2, none⟩ = some (.int .i64 l[j].2.2) := (hT1.cell (p := ⟨g, off + j * 3 + 2, none⟩) hgl HNS.out).trans c2
      have HNx : Hid _ := Ex.flat_next (f := Ex.mOne x.1 x.2 t) l j hkl
      have HSp : Hid _ := Ex.flat_at (f := Ex.mOne x.1 x.2 t) l j hkl
      have ho := HO.out l[j] (List.getElem_mem hkl)
      obtain ⟨Y, hY⟩ : ∃ Y, Y = l[j] := ⟨_, rfl⟩
      rw [← hY] at y0 y1 y2 HNx HSp ho
      have HOY : Hid (Ex.One Y) := ho
      have HJ1 : Hid (Beside J (MoveVars T X w1.heap.size t x f bs) (fun k => k = T ∨ k = X ∨ k = w1.heap.size) ((l.take j).flatMap (Ex.mOne x.1 x.2 t)) S1 wr) := hJ1
      have HT1 : Hid (Turns S20 S1 w2 wr) := hT1
      have hbits := HBits.out
      unfold Ex.movePs at hbits
      rw [HSp.out] at hbits
      have hmo : Ex.mOne x.1 x.2 t Y = Ex.part Y 0 (x.1 - Y.2.1) ++ ((Ex.part Y (x.1 - Y.2.1) (x.1 - Y.2.1 + x.2)).map (Ex.shift (t - x.1)) ++ Ex.part Y (x.1 - Y.2.1 + x.2) Y.2.2) := rfl
      rw [hmo] at hbits HNx
      have HB3 : Hid (Ex.Bits ((((l.take j).flatMap (Ex.mOne x.1 x.2 t) ++ (Ex.part Y 0 (x.1 - Y.2.1)).map id) ++ (Ex.part Y (x.1 - Y.2.1) (x.1 - Y.2.1 + x.2)).map (Ex.shift (t - x.1))) ++ (Ex.part Y (x.1 - Y.2.1 + x.2) Y.2.2).map id)) := by
        unfold Hid
        rw [List.map_id, List.map_id]
        refine Ex.Bits.front (r := (l.drop (j + 1)).flatMap (Ex.mOne x.1 x.2 t)) ?_
        simpa [List.append_assoc] using hbits
      clear hY c0 c1 c2 hat hPg hPg' hJ1 hT1 HI hbits hmo
      unfold Ex.One Ex.Fits at ho
      obtain ⟨q1, ⟨q2, q3, q4, q5⟩, q6, q7, q8, q9⟩ := ho
      have hjz : (j : Int) < (n : Int) := by omega
      obtain ⟨w4, hw4, V4, b4, z4⟩ := boxedRow wr 24 [.int .i64 Y.1, .int .i64 Y.2.1, .int .i64 Y.2.2]
      obtain ⟨d0, d1, d2⟩ := V4.three
      have HV4 : Hid (Row w4 wr.heap.size 24 [.int .i64 Y.1, .int .i64 Y.2.1, .int .i64 Y.2.2]) := V4
      have HJ4 : Hid (Beside J (MoveVars T X w1.heap.size t x f bs) (fun k => k = T ∨ k = X ∨ k = w1.heap.size) ((l.take j).flatMap (Ex.mOne x.1 x.2 t)) S1 w4) := H2.out.below HJ1.out b4
      have HT4 : Hid (Turns S20 S1 w2 w4) := HT1.out.trans (Turns.of b4)
      have HNB : Hid (¬ S1 wr.heap.size) := fun h => by have := H2.out.low HJ1.out _ h; omega
      have HWB : Hid (wr.heap.size < w4.heap.size) := V4.lt
      have M4 : MoveVars T X w1.heap.size t x f bs w4 := by obtain ⟨S', -, h, -, -⟩ := HJ4.out.ex; exact h
      obtain ⟨m0, m1⟩ := M4.span.two
      have m3 := M4.lay.cell (j := 0) rfl
      clear V4 b4 z4 M4
      go_wp2_with fail
      refine (layPiece_u H2.out w4 _ S1 HJ4.out Y HOY.out 0 (x.1 - Y.2.1) HB3.out.front.front).mono ?_
      rintro e w5 ⟨rfl, S5, hj5, ht5⟩
      have HJ5 : Hid (Beside J (MoveVars T X w1.heap.size t x f bs) (fun k => k = T ∨ k = X ∨ k = w1.heap.size) ((l.take j).flatMap (Ex.mOne x.1 x.2 t) ++ (Ex.part Y 0 (x.1 - Y.2.1)).map id) S5 w5) := hj5
      have HT5 : Hid (Turns S20 S5 w2 w5) := HT4.out.trans ht5
      have HV5 : Hid (Row w5 wr.heap.size 24 [.int .i64 Y.1, .int .i64 Y.2.1, .int .i64 Y.2.2]) := ht5.row HV4.out HNB.out
      have HNB5 : Hid (¬ S5 wr.heap.size) := fun h => (ht5.place _ h).elim HNB.out (fun h => by have := HWB.out; unfold Hid at this; omega)
      have M5 : MoveVars T X w1.heap.size t x f bs w5 := by obtain ⟨S', -, h, -, -⟩ := HJ5.out.ex; exact h
      clear d0 d1 d2 m0 m1 m3
      obtain ⟨d0, d1, d2⟩ := HV5.out.three
      obtain ⟨m0, m1⟩ := M5.span.two
      have m3 := M5.lay.cell (j := 0) rfl
      clear hj5 ht5 M5
      go_wp2_with fail
      refine (layPiece_u HM.out w5 _ S5 HJ5.out Y HOY.out (x.1 - Y.2.1) (x.1 - Y.2.1 + x.2) HB3.out.front).mono ?_
      rintro e w6 ⟨rfl, S6, hj6, ht6⟩
      have HJ6 : Hid (Beside J (MoveVars T X w1.heap.size t x f bs) (fun k => k = T ∨ k = X ∨ k = w1.heap.size) (((l.take j).flatMap (Ex.mOne x.1 x.2 t) ++ (Ex.part Y 0 (x.1 - Y.2.1)).map id) ++ (Ex.part Y (x.1 - Y.2.1) (x.1 - Y.2.1 + x.2)).map (Ex.shift (t - x.1))) S6 w6) := hj6
      have HT6 : Hid (Turns S20 S6 w2 w6) := HT5.out.trans ht6
      have HV6 : Hid (Row w6 wr.heap.size 24 [.int .i64 Y.1, .int .i64 Y.2.1, .int .i64 Y.2.2]) := ht6.row HV5.out HNB5.out
      have M6 : MoveVars T X w1.heap.size t x f bs w6 := by obtain ⟨S', -, h, -, -⟩ := HJ6.out.ex; exact h
      clear d0 d1 d2 m0 m1 m3
      obtain ⟨d0, d1, d2⟩ := HV6.out.three
      obtain ⟨m0, m1⟩ := M6.span.two
      have m3 := M6.lay.cell (j := 0) rfl
      clear hj6 ht6 M6
      go_wp2_with fail
      refine (layPiece_u H2.out w6 _ S6 HJ6.out Y HOY.out (x.1 - Y.2.1 + x.2) Y.2.2 HB3.out).mono ?_
      rintro e w7 ⟨rfl, S7, hj7, ht7⟩
      have HJ7 : Hid (Beside J (MoveVars T X w1.heap.size t x f bs) (fun k => k = T ∨ k = X ∨ k = w1.heap.size) ((l.take (j + 1)).flatMap (Ex.mOne x.1 x.2 t)) S7 w7) := by
        unfold Hid
        rw [List.map_id, List.map_id] at hj7
        rw [HNx.out]
        simpa [List.append_assoc] using hj7
      have HT7 : Hid (Turns S20 S7 w2 w7) := HT6.out.trans ht7
      clear hj7 ht7 d0 d1 d2 m0 m1 m3
      go_wp2
      go_roundw
      case rel => exact ⟨j + 1, by omega, by go_num, S7, HJ7.out, HT7.out⟩
      case measure => simp [intOf]; omega
    · obtain rfl : j = n := by omega
      have HE : Hid ((l.take j).flatMap (Ex.mOne x.1 x.2 t) = Ex.movePs l x.1 x.2 t) := by unfold Hid Ex.movePs; rw [List.take_of_length_le (by rw [HL.out]; exact Nat.le_refl _)]
      rw [HE.out] at hJ1
      have HF : Hid _ := HDone.out hJ1 hT1
      clear hJ1 hT1 HI
      go_wp2
      go_end0
      exact ⟨rfl, HF.out⟩

end Go.Proofs.Ytlpmfbinemmikaa
