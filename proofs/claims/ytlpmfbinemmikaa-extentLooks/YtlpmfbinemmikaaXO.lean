/-
  The landed extent: Put and Find, at whatever map. Conditions: those that each contract names.
-/
import Derived.Test.YtlpmfbinemmikaaXN
namespace Go.Proofs.Ytlpmfbinemmikaa
open Go.RowKit
set_option linter.unusedVariables false

theorem four_kept {w w1 : World} {A B : Nat} {s : Value} {x : Ext} {T : TypeId} (hA : A < w.heap.size) (h0 : w.cell? ⟨A, 0, none⟩ = some s) (V : Row w B T (ext3 x)) (b : Below w.heap.size w w1) :
    w1.cell? ⟨A, 0, none⟩ = some s ∧ w1.cell? ⟨B, 0, none⟩ = some (.int .i64 x.1) ∧ w1.cell? ⟨B, 1, none⟩ = some (.int .i64 x.2.1) ∧ w1.cell? ⟨B, 2, none⟩ = some (.int .i64 x.2.2) :=
  ⟨(b.cell (p := ⟨A, 0, none⟩) hA).trans h0, (V.below b).three.1, (V.below b).three.2.1, (V.below b).three.2.2⟩

set_option maxHeartbeats 2000000 in
theorem put1_writes (w : World) (P : Nat → Prop) (a : Option Addr) (n c : Nat) (l : List Ext) (hL : rExts.rd w P [.slice a n c] l) (hO : Ex.Ok l) (x : Ext) (hx : Ex.One x) (A B : Nat) (hA : A < w.heap.size)
    (h0 : w.cell? ⟨A, 0, none⟩ = some (.slice a n c)) (V : Row w B 24 (ext3 x)) :
    Writes 41 #[.pointer (some ⟨A, 0, none⟩), .pointer (some ⟨B, 0, none⟩)] w (Ex.putPs l x) := by
  intro g cs J S w1 L hJ b1 hS
  have HY : Hid (Layer g cs id J) := L
  have HBits : Hid _ := (Ex.putPs_bits hO hx).1
  have HOk : Hid _ := hO
  have HJ : Hid (J [] S w1) := hJ
  have HK : Hid (∀ {w'}, Below w.heap.size w w' → w'.cell? ⟨A, 0, none⟩ = some (.slice a n c) ∧ w'.cell? ⟨B, 0, none⟩ = some (.int .i64 x.1) ∧ w'.cell? ⟨B, 1, none⟩ = some (.int .i64 x.2.1) ∧ w'.cell? ⟨B, 2, none⟩ = some (.int .i64 x.2.2)) := fun b => four_kept hA h0 V b
  obtain ⟨e0, e1, e2, e3⟩ := HK.out b1
  have B1 : Hid (Below w.heap.size w w1) := b1
  have HS : Hid _ := hS
  have HL0 : Hid _ := hL
  have HSm : Hid (Small x) := by unfold Hid Small; unfold Ex.One Ex.Fits at hx; omega
  have HE : Hid (In64 (x.1 + x.2.2)) := by unfold Hid In64; unfold Ex.One Ex.Fits at hx; omega
  unfold Ex.One Ex.Fits at hx
  obtain ⟨f1, ⟨f2, f3, f4, f5⟩, f6, f7, f8, f9⟩ := hx
  have HLow : Hid (∀ b, b < w.heap.size → ¬ S b) := fun b hb hs => by have := hS b hs; omega
  have eg := L.enters
  have HB1 : Hid (Ex.Bits (([] ++ Ex.within l 0 x.1) ++ [id x])) := by
    have h : Ex.Bits ((Ex.within l 0 x.1 ++ [x]) ++ Ex.within l (x.1 + x.2.2) 65536) := by
      have h := HBits.out
      unfold Ex.putPs at h
      simpa [List.append_assoc] using h
    exact h.front
  have HB2 : Hid (Ex.Bits ((([] ++ Ex.within l 0 x.1) ++ [id x]) ++ Ex.within l (x.1 + x.2.2) 65536)) := by
    have h := HBits.out
    unfold Ex.putPs at h
    unfold Hid
    simpa [List.append_assoc] using h
  clear hL hO b1 hS L hJ h0 V
  go_enter Try.func41, Try.ntmps41
  go_wp2_with fail
  refine (layWithin_u HY.out w1 (fun b => b < w.heap.size) a n c l (rExts_low HL0.out B1.out) HOk.out [] S HJ.out (fun b hb _ => HLow.out b hb) 0 x.1 (by omega) (by omega) (by omega) (by omega) (by exact HB1.out.front)).mono ?_
  rintro e w2 ⟨rfl, S2, hj2, ht2⟩
  have HJ2 : Hid (J ([] ++ Ex.within l 0 x.1) S2 w2) := hj2
  have HT2 : Hid (Turns S S2 w1 w2) := ht2
  have B2 : Hid (Below w.heap.size w w2) := B1.out.trans (ht2.below B1.out.size HS.out)
  have HS2 : Hid (∀ b, S2 b → w.heap.size ≤ b) := ht2.low B1.out.size HS.out
  clear e0 e1 e2 e3 hj2 ht2
  obtain ⟨e0, e1, e2, e3⟩ := HK.out B2.out
  have HCL : Hid (Calls Try.prog g (#[.agg #[.int .i64 x.1, .int .i64 x.2.1, .int .i64 x.2.2]] ++ cs) w2 fun e w' => e = .returned (.tuple #[]) ∧ ∃ S', J (([] ++ Ex.within l 0 x.1) ++ [id x]) S' w' ∧ Turns S2 S' w2 w') := HY.out.call HJ2.out HB1.out HSm.out
  go_wp2_with fail
  refine Calls.mono HCL.out ?_
  rintro e w3 ⟨rfl, S3, hj3, ht3⟩
  have HJ3 : Hid (J (([] ++ Ex.within l 0 x.1) ++ [id x]) S3 w3) := hj3
  have HT3 : Hid (Turns S S3 w1 w3) := HT2.out.trans ht3
  have B3 : Hid (Below w.heap.size w w3.drew) := (B2.out.trans (ht3.below B2.out.size HS2.out)).drew
  have HS3 : Hid (∀ b, S3 b → w.heap.size ≤ b) := ht3.low B2.out.size HS2.out
  clear e0 e1 e2 e3 hj3 ht3 HCL
  go_wp2_with fail
  refine wp_region_held_drew (S := (fun w' : World => w'.cell? ⟨A, 0, none⟩ = some (.slice a n c) ∧ w'.cell? ⟨B, 0, none⟩ = some (.int .i64 x.1) ∧ w'.cell? ⟨B, 1, none⟩ = some (.int .i64 x.2.1) ∧ w'.cell? ⟨B, 2, none⟩ = some (.int .i64 x.2.2))) (by kernel_rfl) (HK.out B3.out) (fun hHeld => ?_)
  refine wpAnyH_takeL (i := 0) (v := ?_) rfl rfl (by kernel_rfl) (by kernel_rfl) (by kernel_rfl) (fun _ _ _ h => h) (Or.inl ⟨by rfl, ?_⟩) (by assumption) ?_
  rotate_left
  · intro w hSw
    try dsimp only at hSw
    go_simp
    all_goals with_reducible rfl
  simp only [List.set_cons_zero, List.set_cons_succ]
  refine wpAnyH_takeL (i := 1) (v := ?_) rfl rfl (by kernel_rfl) (by kernel_rfl) (by kernel_rfl) (fun _ _ _ h => h) (Or.inl ⟨by rfl, ?_⟩) (by assumption) ?_
  rotate_left
  · intro w hSw
    try dsimp only at hSw
    go_simp
    all_goals with_reducible rfl
  simp only [List.set_cons_zero, List.set_cons_succ]
  refine wpAnyH_takeL (i := 3) (v := ?_) rfl rfl (by kernel_rfl) (by kernel_rfl) (by kernel_rfl) (fun _ _ _ h => h) (Or.inl ⟨by rfl, ?_⟩) (by assumption) ?_
  rotate_left
  · intro w hSw
    try dsimp only at hSw
    go_simp
    all_goals with_reducible rfl
  simp only [List.set_cons_zero, List.set_cons_succ]
  refine wpAnyH_ready (rs := [2]) (by kernel_rfl) (by simp) ?_
  refine AllReadyH.cons rfl (fun K hK => ?_) ?_
  · go_simp
    go_at_call 34
    refine Calls.mono (virtEnd_u _ x HE.out) ?_
    rintro e w4 ⟨rfl, hb4⟩
    have B4 : Hid (Below w.heap.size w w4) := B3.out.trans (hb4.mono B3.out.size)
    have HW4 : Hid (Below w3.heap.size w3 w4) := ⟨hb4.os, hb4.tape, hb4.output, hb4.size, hb4.block⟩
    have S1 := HK.out B4.out
    clear hb4
    go_simp
    refine hK.out _ _ ?_ (fun hHeld => ?_)
    · try dsimp only
      first | exact S2' | exact S1
    clear hK K
    refine wpAnyH_ready (rs := [4]) (by kernel_rfl) (by simp) ?_
    refine AllReadyH.cons rfl (fun K hK => ?_) ?_
    · go_simp
      go_at_call 28
      refine Calls.mono (layWithin_u HY.out w4 (fun b => b < w.heap.size) a n c l (rExts_low HL0.out B4.out) HOk.out (([] ++ Ex.within l 0 x.1) ++ [id x]) S3 (HY.out.below HJ3.out HW4.out) (fun b hb _ hs => by have := HS3.out b hs; omega) (x.1 + x.2.2) 65536 (by omega) (by omega) (by omega) (by omega) HB2.out) ?_
      rintro e w5 ⟨rfl, S5, hj5, ht5⟩
      have HJ5 : Hid (J ((([] ++ Ex.within l 0 x.1) ++ [id x]) ++ Ex.within l (x.1 + x.2.2) 65536) S5 w5) := hj5
      have HT5 : Hid (Turns S S5 w1 w5) := (HT3.out.trans (Turns.of HW4.out)).trans ht5
      have S2' := HK.out (B4.out.trans (ht5.below B4.out.size HS3.out))
      clear hj5 ht5
      go_simp
      refine hK.out _ _ ?_ (fun hHeld => ?_)
      · try dsimp only
        first | exact S2' | exact S1
      clear hK K
      refine wpAnyH_done (by kernel_rfl) ?_ _
      clear S1 S2'
      go_wp2
      go_end0
      exact ⟨rfl, S5, by have h := HJ5.out; unfold Ex.putPs; simpa [List.append_assoc] using h, HT5.out⟩
    exact AllReadyH.nil
  exact AllReadyH.nil

set_option maxHeartbeats 2000000 in
theorem extPut_u (w : World) (P : Nat → Prop) (a : Option Addr) (n c : Nat) (l : List Ext) (hL : rExts.rd w P [.slice a n c] l) (x : Ext) (hx : In3 x) :
    Calls Try.prog 16 #[.slice a n c, .agg #[.int .i64 x.1, .int .i64 x.2.1, .int .i64 x.2.2]] w fun e w' => ∃ b, e = .returned (.tuple #[b, .int .i64 (Ex.putE l x)]) ∧ OwnE 24 w' w.heap.size b (Ex.putL l x) ∧ Below w.heap.size w w' := by
  obtain ⟨w1, hw1, V1, b1, z1⟩ := boxedRow w 22 [.slice a n c]
  obtain ⟨w2, hw2, V2, b2, z2⟩ := boxedRow w1 24 [.int .i64 x.1, .int .i64 x.2.1, .int .i64 x.2.2]
  rw [z1] at z2 V2
  have B2 : Hid (Below w.heap.size w w2) := on b1 b2
  have HV1 : Hid (Row w2 w.heap.size 22 [.slice a n c]) := V1.below b2
  have HV2 : Hid (Row w2 (w.heap.size + 1) 24 [.int .i64 x.1, .int .i64 x.2.1, .int .i64 x.2.2]) := V2
  have h0 := HV1.out.cell (j := 0) rfl
  obtain ⟨h1, h2, h3⟩ := HV2.out.three
  have HR : Hid _ := hL
  have HX : Hid (In3 x) := hx
  clear V1 V2 b1 b2
  by_cases hO : Ex.Ok l
  · have HC : Hid _ := Ex.checkE_ok hO
    by_cases ho : Ex.One x
    · have HM : Hid (decide (Ex.One x) = true) := decide_eq_true ho
      have HE : Hid (Ex.putE l x = Ex.bareE (Ex.put l x)) := by unfold Hid Ex.putE Ex.bareE; rw [if_pos hO, if_pos ho]
      have HLL : Hid (Ex.putL l x = Ex.bareL (Ex.put l x)) := by
        unfold Hid Ex.putL
        rw [HE.out]
        unfold Ex.bareE Ex.bareL
        by_cases h : (Ex.put l x).length ≤ 1024
        · rw [if_pos h, if_pos rfl, if_pos h]
        · rw [if_neg h, if_neg (by decide), if_neg h]
      have HOk : Hid _ := hO
      have HOne : Hid (Ex.One x) := ho
      have HBits : Hid _ := (Ex.putPs_bits hO ho).1
      have HEq : Hid _ := Ex.putPs_eq hO ho
      clear hO ho hL hx
      go_enter Try.func16, Try.ntmps16
      go_wp2_with fail
      refine (extCheck_u _ P _ _ _ l (Rep.below HR.out B2.out)).mono ?_
      rintro e w3 ⟨rfl, b3⟩
      rw [HC.out]
      have B3 : Hid (Below w.heap.size w w3) := on B2.out b3
      have W1 : Hid (Row w3 w.heap.size 22 [.slice a n c]) := HV1.out.below b3
      have W2 : Hid (Row w3 (w.heap.size + 1) 24 [.int .i64 x.1, .int .i64 x.2.1, .int .i64 x.2.2]) := HV2.out.below b3
      obtain ⟨g1, g2, g3⟩ := W2.out.three
      clear h0 h1 h2 h3 b3
      go_wp2_with fail
      refine (mayBe_u _ x HX.out _ HM.out).mono ?_
      rintro e w4 ⟨rfl, b4⟩
      have B4 : Hid (Below w.heap.size w w4) := on B3.out b4
      have HWR : Hid _ := put1_writes w4 P a n c l (Rep.below HR.out B4.out) HOk.out x HOne.out w.heap.size (w.heap.size + 1) (W1.out.below b4).lt ((W1.out.below b4).cell (j := 0) rfl) (W2.out.below b4)
      clear g1 g2 g3 b4
      go_wp2_with fail
      refine (laid_u w4 _ _ (enters_of Try.func41 (by kernel_rfl) rfl) _ HBits.out HWR.out).mono ?_
      rintro e w5 ⟨b5, rfl, ho5, bb5⟩
      rw [HEq.out] at ho5 ⊢
      have HO5 : Hid (OwnE _ _ _ _ _) := ho5
      have B5 : Hid (Below w.heap.size w w5) := on B4.out bb5
      clear ho5 bb5
      go_wp2
      go_ret2
      exact ⟨_, by rw [HE.out]; rfl, by rw [HLL.out]; exact HO5.out.mono B4.out.size, B5.out⟩
    · have HM : Hid (decide (Ex.One x) = false) := decide_eq_false ho
      have HE : Hid (Ex.putE l x = 4) := by unfold Hid Ex.putE; rw [if_pos hO, if_neg ho]
      have HLL : Hid (Ex.putL l x = []) := if_neg (by rw [HE.out]; decide)
      clear hO ho hL hx
      go_enter Try.func16, Try.ntmps16
      go_wp2_with fail
      refine (extCheck_u _ P _ _ _ l (Rep.below HR.out B2.out)).mono ?_
      rintro e w3 ⟨rfl, b3⟩
      rw [HC.out]
      have B3 : Hid (Below w.heap.size w w3) := on B2.out b3
      obtain ⟨g1, g2, g3⟩ := (HV2.out.below b3).three
      clear h0 h1 h2 h3 b3
      go_wp2_with fail
      refine (mayBe_u _ x HX.out _ HM.out).mono ?_
      rintro e w4 ⟨rfl, b4⟩
      go_wp2
      go_ret2
      exact ⟨_, by rw [HE.out]; rfl, by rw [HLL.out]; exact OwnE.nil _ _ _, on B3.out b4⟩
  · have HC : Hid _ := Ex.checkE_no hO
    have HE : Hid (Ex.putE l x = 9) := by unfold Hid Ex.putE; rw [if_neg hO]
    have HLL : Hid (Ex.putL l x = []) := if_neg (by rw [HE.out]; decide)
    clear hO hL hx
    go_enter Try.func16, Try.ntmps16
    go_wp2_with fail
    refine (extCheck_u _ P _ _ _ l (Rep.below HR.out B2.out)).mono ?_
    rintro e w3 ⟨rfl, b3⟩
    rw [HC.out]
    go_wp2
    go_ret2
    exact ⟨_, by rw [HE.out]; rfl, by rw [HLL.out]; exact OwnE.nil _ _ _, on B2.out b3⟩

/-- The variable in which a place is kept. -/
structure PlaceBox (B : Nat) (ps : List Ext) (S : Nat → Prop) (w : World) : Prop where
  row : Row w B 3 [.int .i64 (Ex.fp ps)]
  own : ∀ k, S k ↔ k = B

set_option maxHeartbeats 2000000 in
theorem placeLayer (B : Nat) : Layer 29 #[.pointer (some ⟨B, 0, none⟩)] id (PlaceBox B) := by
  refine ⟨enters_of Try.func29 (by kernel_rfl) rfl, fun h k hk => by rw [(h.own k).1 hk]; exact h.row.lt, fun h hk => ⟨h.row.keep (hk B ((h.own B).2 rfl)), h.own⟩, ?_⟩
  intro ps S w x hJ hB hx
  obtain ⟨w0, hw0, V0, b0, z0⟩ := boxedRow w 24 [.int .i64 x.1, .int .i64 x.2.1, .int .i64 x.2.2]
  obtain ⟨d0, d1, d2⟩ := V0.three
  have HV : Hid (Row w0 B 3 [.int .i64 (Ex.fp ps)]) := hJ.row.below b0
  have h0 := HV.out.cell (j := 0) rfl
  have f0 := HV.out.frozen 0
  have HO : Hid (∀ k, S k ↔ k = B) := hJ.own
  have B0 : Hid (Below w.heap.size w w0) := b0
  have HF : Hid _ := Ex.fp_snoc ps x
  clear V0 b0 z0 hJ hB hx
  go_enter Try.func29, Try.ntmps29
  go_wp2
  go_end0
  have V1 := HV.out.set 0 (.int .i64 x.2.1)
  refine ⟨rfl, S, ⟨by have h := HF.out; show Row _ B _ [.int .i64 (Ex.fp (ps ++ [x]))]; rw [HF.out]; exact V1, HO.out⟩, ?_⟩
  exact ⟨B0.out.os, B0.out.tape, B0.out.output, by rw [show (w0.setCell ⟨B, 0, none⟩ (.int .i64 x.2.1)).heap.size = w0.heap.size by simp [World.setCell]]; exact B0.out.size, fun k hk hn => by rw [Below.heap_setCell _ _ _ _ (fun h => hn ((HO.out k).2 h)), B0.out.block k hk], fun k hk => .inl hk⟩

theorem Ex.within_pieces {l : List Ext} (h : Ex.Ok l) {v en : Int} (h0 : 0 ≤ v) (h1 : v ≤ en) (h2 : en ≤ 65536) : Ex.Bits (Ex.within l v en) := by
  have hg := h.good
  have ho := fun x hx => Ex.good_phys hg (x := x) hx
  obtain ⟨a1, a2⟩ := Ex.within_loose hg.from_ ho (d := 0) (a := v) (b := en) (by omega) (by omega)
  have hm := fun z hz => Ex.within_mem (z := z) ho (a := v) (b := en) hz
  refine ⟨⟨a1, by omega, fun z hz => by have := hm z hz; omega, by have := Ex.within_len l v en; have := h.1; omega⟩, fun z hz => by have := hm z hz; omega⟩

set_option maxHeartbeats 2000000 in
theorem extFind_u (w : World) (P : Nat → Prop) (a : Option Addr) (n c : Nat) (l : List Ext) (hL : rExts.rd w P [.slice a n c] l) (v : Int) :
    Calls Try.prog 10 #[.slice a n c, .int .i64 v] w fun e w' => e = .returned (.tuple #[.int .i64 (Ex.findV l v), .int .i64 (Ex.findE l v)]) ∧ Below w.heap.size w w' := by
  have HR : Hid _ := hL
  by_cases hO : Ex.Ok l
  · have HC : Hid _ := Ex.checkE_ok hO
    by_cases hv : 0 ≤ v ∧ v < 65536
    · have HE : Hid (Ex.findE l v = 0) := Ex.findE_zero.2 ⟨hO, hv⟩
      have HV : Hid (Ex.findV l v = Ex.fp (Ex.within l v (v + 1))) := by
        unfold Hid Ex.findV
        rw [if_pos HE.out, Ex.find_eq hO.good.from_ (fun x hx => Ex.good_phys hO.good hx)]
      have HOk : Hid _ := hO
      have HB : Hid (Ex.Bits ([] ++ Ex.within l v (v + 1))) := Ex.within_pieces hO hv.1 (by omega) (by omega)
      obtain ⟨v0, v1⟩ := hv
      clear hO hL
      go_enter Try.func10, Try.ntmps10
      go_wp2_with fail
      refine (extCheck_u _ P _ _ _ l HR.out).mono ?_
      rintro e w1 ⟨rfl, b1⟩
      rw [HC.out]
      obtain ⟨w2, hw2, V2, b2, z2⟩ := boxedRow w1 3 [.int .i64 (-1)]
      have HR2 : Hid _ := Rep.below HR.out (on b1 b2)
      have HP2 : Hid (PlaceBox w1.heap.size [] (fun k => k = w1.heap.size) w2) := ⟨V2, fun k => Iff.rfl⟩
      have B1 : Hid (Below w.heap.size w w1) := b1
      have B2 : Hid (Below w1.heap.size w1 w2) := b2
      have HR1 : Hid _ := Rep.below HR.out b1
      clear b1 b2 V2 z2
      go_wp2_with fail
      refine (layWithin_u (placeLayer w1.heap.size) w2 (fun b => b < w1.heap.size) a n c l (rExts_low HR1.out B2.out) HOk.out [] _ HP2.out (fun b hb _ h => by have h : b = w1.heap.size := h; omega) v (v + 1) (by omega) (by omega) (by omega) (by omega) HB.out).mono ?_
      rintro e w3 ⟨rfl, S3, hj3, ht3⟩
      have k3 := hj3.row.cell (j := 0) rfl
      have B3 : Hid (Below w.heap.size w w3) := on B1.out (B2.out.trans (ht3.below B2.out.size (fun k hk => by omega)))
      clear hj3 ht3
      go_wp2
      go_ret2
      exact ⟨by rw [HE.out, HV.out]; rfl, B3.out⟩
    · have HE : Hid (Ex.findE l v = 4) := by unfold Hid Ex.findE; rw [if_pos hO, if_neg hv]
      have HV : Hid (Ex.findV l v = 0) := if_neg (by rw [HE.out]; decide)
      clear hO hL
      by_cases hv0 : v < 0
      · go_enter Try.func10, Try.ntmps10
        go_wp2_with fail
        refine (extCheck_u _ P _ _ _ l HR.out).mono ?_
        rintro e w1 ⟨rfl, b1⟩
        rw [HC.out]
        go_wp2
        go_ret2
        exact ⟨by rw [HE.out, HV.out]; rfl, b1⟩
      · have hv1 : 65536 ≤ v := by omega
        go_enter Try.func10, Try.ntmps10
        go_wp2_with fail
        refine (extCheck_u _ P _ _ _ l HR.out).mono ?_
        rintro e w1 ⟨rfl, b1⟩
        rw [HC.out]
        go_wp2
        go_ret2
        exact ⟨by rw [HE.out, HV.out]; rfl, b1⟩
  · have HC : Hid _ := Ex.checkE_no hO
    have HE : Hid (Ex.findE l v = 9) := by unfold Hid Ex.findE; rw [if_neg hO]
    have HV : Hid (Ex.findV l v = 0) := if_neg (by rw [HE.out]; decide)
    clear hO hL
    go_enter Try.func10, Try.ntmps10
    go_wp2_with fail
    refine (extCheck_u _ P _ _ _ l HR.out).mono ?_
    rintro e w1 ⟨rfl, b1⟩
    rw [HC.out]
    go_wp2
    go_ret2
    exact ⟨by rw [HE.out, HV.out]; rfl, b1⟩

end Go.Proofs.Ytlpmfbinemmikaa
