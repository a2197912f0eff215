/-
  The contract of the document's own Move: the sectors of a span stand elsewhere. Conditions: those that each contract names.
-/
import Derived.Test.YtlpmfbinemmikaaREP
namespace Go.Proofs.Ytlpmfbinemmikaa
open Go.RowKit
set_option linter.unusedVariables false

set_option maxRecDepth 20000 in
set_option maxHeartbeats 4000000 in
theorem refMove_ok (w : World) (P : Nat → Prop) (a : Option Addr) (n c : Nat) (l : List Ext) (hL : rExts.rd w P [.slice a n c] l) (hO : Ex.Ok l) (x : Spn) (t : Int) (hs : Ex.Span x t) :
    Calls Try.prog 24 #[.slice a n c, .agg #[.int .i64 x.1, .int .i64 x.2], .int .i64 t] w fun e w' => ∃ b, e = .returned (.tuple #[b, .int .i64 (Ex.moveE l x t)]) ∧ OwnE 24 w' w.heap.size b (Ex.moveL l x t) ∧ Below w.heap.size w w' := by
  obtain ⟨hl, hnc, hnil, hb⟩ := rList_len hL
  have hn : n ≤ 1024 := by have := hO.1; omega
  have HL : Hid _ := hl
  have HO : Hid _ := hO.2.1
  have HP : Hid _ := Ex.move_pieces hO hs.2.1 hs.2.2
  have HC : Hid _ := Ex.checkE_ok hO
  have HF1 : Hid (decide (Ex.Fits x.1 x.2) = true) := decide_eq_true hs.2.1
  have HF2 : Hid (decide (Ex.Fits t x.2) = true) := decide_eq_true hs.2.2
  obtain ⟨m, hm⟩ : ∃ m, m = (Ex.move l x.1 x.2 t).length := ⟨_, rfl⟩
  have hmc : m ≤ 100000 := by rw [hm]; exact HP.out.count
  have HM : Hid _ := hm
  have HE : Hid (Ex.moveE l x t = if m ≤ 1024 then 0 else 51) := by unfold Hid Ex.moveE; rw [if_pos hO, if_pos hs, hm]
  obtain ⟨w0, hw0, V0, b0, -⟩ := boxedRow w 44 [.int .i64 x.1, .int .i64 x.2]
  have HR : Hid _ := Rep.below hL b0
  have HV0 : Hid (Row w0 w.heap.size 44 [.int .i64 x.1, .int .i64 x.2]) := V0
  have HLT : Hid (w.heap.size < w0.heap.size) := V0.lt
  have B0 : Hid (Below w.heap.size w w0) := b0
  have s0 := V0.cell (j := 0) rfl
  have s1 := V0.cell (j := 1) rfl
  unfold Ex.Span Ex.Fits at hs
  obtain ⟨f0, ⟨f1, f2, f3, f4⟩, f5, f6, f7, f8⟩ := hs
  have hmx := max_fact 3
  have hmn := min_fact 3
  clear hl hnc hnil hb hL hO hm V0 b0
  go_enter Try.func24, Try.ntmps24
  go_wp2_with fail
  refine (refCheck5_u _ _ _ _ _ l HR.out).mono ?_
  rintro e w1 ⟨rfl, b1⟩
  rw [HC.out]
  have s0' := (HV0.out.below b1).cell (j := 0) rfl
  have s1' := (HV0.out.below b1).cell (j := 1) rfl
  clear s0 s1 hw0
  go_wp2_with fail
  refine (refFits_u _ _ _ _ HF1.out).mono ?_
  rintro e w9 ⟨rfl, rfl⟩
  go_wp2_with fail
  refine (refFits_u _ _ _ _ HF2.out).mono ?_
  rintro e w9 ⟨rfl, rfl⟩
  clear s0' s1'
  go_wp2
  go_loopw [8, 9] (fun o i wr => ∃ j : Nat, j ≤ n ∧ i = .int .i64 j ∧ Hid (OwnE 24 wr w0.heap.size o (Ex.addAll [] ((l.take j).flatMap (Ex.moveOne x.1 x.2 t)))) ∧ Below w0.heap.size w0 wr) (fun _ i _ => n - (intOf i).toNat)
  case atStart => exact ⟨0, Nat.zero_le _, rfl, OwnE.nil _ _ _, b1⟩
  case round =>
    obtain ⟨j, hj, rfl, HW, bel⟩ := hrel
    by_cases hlt : j < n
    · have hkl : j < l.length := by rw [HL.out]; exact hlt
      have hAr := Rep.below HR.out bel
      obtain ⟨g, off, rfl, -, hgl, hat⟩ := rExts_at hAr (by omega)
      obtain ⟨c0, c1, c2, -⟩ := hat j hkl
      have ho := HO.out l[j] (List.getElem_mem hkl)
      have HE2 : Hid _ := Ex.flat_at (f := Ex.moveOne x.1 x.2 t) l j hkl
      have HN : Hid _ := Ex.flat_next (f := Ex.moveOne x.1 x.2 t) l j hkl
      obtain ⟨X, hX⟩ : ∃ X, X = l[j] := ⟨_, rfl⟩
      rw [← hX] at c0 c1 c2 ho HE2 HN
      clear hX hat hAr
      unfold Ex.One Ex.Fits at ho
      obtain ⟨q1, ⟨q2, q3, q4, q5⟩, q6, q7, q8, q9⟩ := ho
      have hkn : (j : Int) < (n : Int) := by omega
      obtain ⟨w2, hw2, V1, b2, -⟩ := boxedRow wr 24 [.int .i64 X.1, .int .i64 X.2.1, .int .i64 X.2.2]
      have d0 := V1.cell (j := 0) rfl
      have d1 := V1.cell (j := 1) rfl
      have d2 := V1.cell (j := 2) rfl
      have B1 : Hid (Below w0.heap.size w0 w2) := on bel b2
      have t0 := (HV0.out.below B1.out).cell (j := 0) rfl
      have t1 := (HV0.out.below B1.out).cell (j := 1) rfl
      have HW1 : Hid (OwnE _ _ _ _ _) := HW.out.below b2
      have HV1 : Hid (Row _ _ _ _) := V1
      clear V1 b2
      have HS1 : Hid (w0.heap.size ≤ w2.heap.size) := B1.out.size
      have HB1 : Hid (wr.heap.size < w2.heap.size) := HV1.out.lt
      have HOW : Hid (∀ b, u8.ownBlock = some b → w0.heap.size ≤ b ∧ b < wr.heap.size) := fun b e => HW.out.row.lt b e
      go_wp2_with fail
      go_quiet (fail)
      generalize hlo : max X.2.1 x.1 = lo at *
      generalize hhi : min (X.2.1 + X.2.2) (x.1 + x.2) = hi at *
      have r1 : X.2.1 ≤ lo ∧ x.1 ≤ lo ∧ (lo = X.2.1 ∨ lo = x.1) := by omega
      have r2 : hi ≤ X.2.1 + X.2.2 ∧ hi ≤ x.1 + x.2 ∧ (hi = X.2.1 + X.2.2 ∨ hi = x.1 + x.2) := by omega
      have HC2 : Hid _ := Ex.moveOne_low (t := t) hlo hhi
      clear hlo hhi
      by_cases hge : hi ≤ lo
      · have hcut : Ex.moveOne x.1 x.2 t X = [X] := by rw [HC2.out, if_pos hge]
        rw [hcut] at HE2 HN
        clear hcut HC2
        go_wp2_with fail
        refine (refAdd_p HP.out HE2.out _ w0.heap.size _ (HW1.out.drewN nq) HS1.out).mono ?_
        rintro e w3 ⟨v3, rfl, ho3, g3⟩
        have HB3 : Hid (Below w0.heap.size w0 w3) := (same_drewN B1.out nq).trans ((HW1.out.drewN nq).base_below HS1.out g3)
        have HO3 : Hid (OwnE _ _ _ _ _) := ho3
        clear ho3 g3
        go_wp2
        go_roundw
        case rel => exact ⟨j + 1, by omega, by go_num, by rw [HN.out]; exact HO3.out, HB3.out⟩
        case measure => simp [intOf]; omega
      · have hcut : Ex.moveOne x.1 x.2 t X = [(X.1, X.2.1, lo - X.2.1), (X.1 + lo - X.2.1, t + lo - x.1, hi - lo), (X.1 + hi - X.2.1, hi, X.2.1 + X.2.2 - hi)] := by rw [HC2.out, if_neg hge]
        rw [hcut] at HE2 HN
        clear hcut HC2
        go_wp2_with fail
        refine (refAdd_p (p := (X.1, X.2.1, lo - X.2.1)) HP.out HE2.out _ w0.heap.size _ (HW1.out.drewN nq) HS1.out).mono ?_
        rintro e w3 ⟨v3, rfl, ho3, g3⟩
        have HB3 : Hid (Below w0.heap.size w0 w3) := (same_drewN B1.out nq).trans ((HW1.out.drewN nq).base_below HS1.out g3)
        have HO3 : Hid (OwnE _ _ _ _ _) := ho3
        have V3 : Row w3 wr.heap.size 24 [.int .i64 X.1, .int .i64 X.2.1, .int .i64 X.2.2] := HV1.out.keep (g3.block wr.heap.size HB1.out (fun e => by have := (HOW.out _ e.symm).2; omega))
        have HOW3 : Hid (∀ b, v3.ownBlock = some b → b ≠ wr.heap.size) := fun b e => by
          rcases g3.place b e with k | k
          · have := (HOW.out b k).2; omega
          · have k' : w2.heap.size ≤ b := k
            have := HB1.out
            unfold Hid at this
            omega
        have HG3 : Hid (wr.heap.size < w3.heap.size) := Nat.lt_of_lt_of_le HB1.out g3.grown.size
        have d0' := V3.cell (j := 0) rfl
        have d1' := V3.cell (j := 1) rfl
        have d2' := V3.cell (j := 2) rfl
        have t0' := (HV0.out.below HB3.out).cell (j := 0) rfl
        have t1' := (HV0.out.below HB3.out).cell (j := 1) rfl
        have HV3 : Hid (Row _ _ _ _) := V3
        clear ho3 g3 V3 d0 d1 d2 t0 t1
        go_wp2_with fail
        refine (refAdd_p (p := (X.1 + lo - X.2.1, t + lo - x.1, hi - lo)) (r := (X.1 + hi - X.2.1, hi, X.2.1 + X.2.2 - hi) :: (l.drop (j + 1)).flatMap (Ex.moveOne x.1 x.2 t)) HP.out (by rw [HE2.out, List.append_assoc]; rfl) _ w0.heap.size _ HO3.out HB3.out.size).mono ?_
        rintro e w4 ⟨v4, rfl, ho4, g4⟩
        have HB4 : Hid (Below w0.heap.size w0 w4) := HB3.out.trans (HO3.out.base_below HB3.out.size g4)
        have HO4 : Hid (OwnE _ _ _ _ _) := ho4
        have V4 : Row w4 wr.heap.size 24 [.int .i64 X.1, .int .i64 X.2.1, .int .i64 X.2.2] := HV3.out.keep (g4.block wr.heap.size HG3.out (fun e => HOW3.out _ e.symm rfl))
        have e0 := V4.cell (j := 0) rfl
        have e1 := V4.cell (j := 1) rfl
        have e2 := V4.cell (j := 2) rfl
        clear ho4 g4 V4 d0' d1' d2' t0' t1'
        go_wp2_with fail
        refine (refAdd_p (p := (X.1 + hi - X.2.1, hi, X.2.1 + X.2.2 - hi)) (r := (l.drop (j + 1)).flatMap (Ex.moveOne x.1 x.2 t)) HP.out (by rw [HE2.out, List.append_assoc, List.append_assoc]; rfl) _ w0.heap.size _ HO4.out HB4.out.size).mono ?_
        rintro e w5 ⟨v5, rfl, ho5, g5⟩
        have HB5 : Hid (Below w0.heap.size w0 w5) := HB4.out.trans (HO4.out.base_below HB4.out.size g5)
        have HO5 : Hid (OwnE _ _ _ _ _) := ho5
        clear ho5 g5
        go_wp2
        go_roundw
        case rel => exact ⟨j + 1, by omega, by go_num, by rw [HN.out]; have h := HO5.out; rw [List.append_assoc, List.append_assoc] at h; exact h, HB5.out⟩
        case measure => simp [intOf]; omega
    · obtain rfl : j = n := by omega
      have HT : Hid (Ex.addAll [] ((l.take j).flatMap (Ex.moveOne x.1 x.2 t)) = Ex.move l x.1 x.2 t) := by unfold Hid; rw [List.take_of_length_le (by rw [HL.out]; exact Nat.le_refl _)]; rfl
      rw [HT.out] at HW
      obtain ⟨a3, c3, hu8, -, -⟩ := HW.out.slice
      rw [← HM.out] at hu8
      subst hu8
      have BB : Hid (Below w.heap.size w wr) := on B0.out bel
      by_cases hle : m ≤ 1024
      · rw [if_pos hle] at HE
        have HLL : Hid (Ex.moveL l x t = Ex.move l x.1 x.2 t) := if_pos HE.out
        go_wp2
        go_ret2
        exact ⟨_, by rw [HE.out]; rfl, by rw [HLL.out]; exact HW.out.mono B0.out.size, BB.out⟩
      · rw [if_neg hle] at HE
        have HLL : Hid (Ex.moveL l x t = []) := if_neg (by rw [HE.out]; decide)
        go_wp2
        go_ret2
        exact ⟨_, by rw [HE.out]; rfl, by rw [HLL.out]; exact OwnE.nil _ _ _, BB.out⟩

end Go.Proofs.Ytlpmfbinemmikaa
