/-
  The contract of the document's own merged: one extent laid among others. Conditions: those that each contract names.
-/
import Derived.Test.YtlpmfbinemmikaaREP
import Derived.Test.YtlpmfbinemmikaaEPut
namespace Go.Proofs.Ytlpmfbinemmikaa
open Go.RowKit
set_option linter.unusedVariables false

set_option maxHeartbeats 4000000 in
theorem refMerged_u (w : World) (P P' : Nat → Prop) (a : Option Addr) (n c : Nat) (l : List Ext) (hL : rExts.rd w P [.slice a n c] l) (b : Option Addr) (cb : Nat) (x : Ext) (hB : rExts.rd w P' [.slice b 1 cb] [x]) (hP : Ex.Pieces (Ex.ins x l)) :
    Calls Try.prog 42 #[.slice a n c, .slice b 1 cb] w fun e w' => ∃ v, e = .returned v ∧ OwnE 24 w' w.heap.size v (Ex.addAll [] (Ex.ins x l)) ∧ Below w.heap.size w w' := by
  obtain ⟨hl, hnc, hnil, hb⟩ := rList_len hL
  have hn : n ≤ 100000 := by have := hP.len; rw [Ex.ins_len] at this; omega
  have HL : Hid _ := hl
  have HR : Hid _ := hL
  have HRB : Hid _ := hB
  have HP : Hid _ := hP
  obtain ⟨gb, ob, rfl, -, -, -⟩ := rExts_at hB (by decide)
  clear hl hnc hnil hb hL hB hP
  go_enter Try.func42, Try.ntmps42
  go_wp2
  go_loopw [5, 6, 7] (fun o i k wr => ∃ (j : Nat) (f : Nat) (q : List Ext), j ≤ n ∧ i = .int .i64 j ∧ k = .int .i64 f ∧ f ≤ 1 ∧ Hid (f = 0 → Ex.ins x l = q ++ Ex.ins x (l.drop j)) ∧ Hid (f = 1 → Ex.ins x l = q ++ l.drop j) ∧ Hid (OwnE 24 wr w.heap.size o (Ex.addAll [] q)) ∧ Below w.heap.size w wr) (fun _ i k _ => (n - (intOf i).toNat) + (1 - (intOf k).toNat))
  case atStart => exact ⟨0, 0, [], Nat.zero_le _, rfl, rfl, by omega, fun _ => rfl, fun h => by omega, OwnE.nil _ _ _, Below.refl _ _⟩
  case round =>
    obtain ⟨j, f, q, hj, rfl, rfl, hf1, HQ0, HQ1, HW, bel⟩ := hrel
    have HS : Hid (w.heap.size ≤ wr.heap.size) := bel.size
    have hBr := Rep.below HRB.out bel
    obtain ⟨g', off', eg, -, hgb, hatb⟩ := rExts_at hBr (by decide)
    simp only [Option.some.injEq, Addr.mk.injEq, and_true] at eg
    obtain ⟨rfl, rfl⟩ := eg
    obtain ⟨b0, b1, b2, -⟩ := hatb 0 (by simp)
    simp only [Nat.zero_mul, Nat.add_zero, List.getElem_cons_zero] at b0 b1 b2
    clear hatb hBr
    by_cases hlt : j < n
    · have hkl : j < l.length := by rw [HL.out]; exact hlt
      have hAr := Rep.below HR.out bel
      obtain ⟨g, off, rfl, -, hgl, hat⟩ := rExts_at hAr (by omega)
      obtain ⟨c0, c1, c2, -⟩ := hat j hkl
      have HI : Hid _ := Ex.ins_at (x := x) hkl
      have HD : Hid _ := List.drop_eq_getElem_cons hkl
      obtain ⟨X, hX⟩ : ∃ X, X = l[j] := ⟨_, rfl⟩
      rw [← hX] at c0 c1 c2 HI HD
      clear hX hat hAr
      have hkn : (j : Int) < (n : Int) := by omega
      by_cases hf : f = 0
      · subst hf
        have HQ : Hid _ := HQ0.out rfl
        clear HQ0 HQ1
        by_cases hlt2 : X.1 < x.1
        · rw [if_pos hlt2] at HI
          have HE : Hid (Ex.ins x l = q ++ X :: Ex.ins x (l.drop (j + 1))) := by unfold Hid; rw [HQ.out, HI.out]
          have HE2 : Hid (Ex.ins x l = (q ++ [X]) ++ Ex.ins x (l.drop (j + 1))) := by unfold Hid; rw [HE.out, List.append_assoc]; rfl
          clear HQ HI HD
          go_wp2_with fail
          go_quiet (fail)
          go_wp2_with fail
          refine (refAdd_p HP.out HE.out _ w.heap.size _ (HW.out.drewN nq) HS.out).mono ?_
          rintro e w2 ⟨v2, rfl, ho2, g2⟩
          have HB2 : Hid (Below w.heap.size w w2) := (same_drewN bel nq).trans ((HW.out.drewN nq).base_below HS.out g2)
          have HO2 : Hid (OwnE _ _ _ _ _) := ho2
          clear ho2 g2
          go_wp2
          go_roundw
          case rel => exact ⟨j + 1, 0, q ++ [X], by omega, by go_num, rfl, by omega, fun _ => HE2.out, fun h => by omega, HO2, HB2.out⟩
          case measure => simp [intOf]; omega
        · rw [if_neg hlt2] at HI
          have HE : Hid (Ex.ins x l = q ++ x :: l.drop j) := by unfold Hid; rw [HQ.out, HI.out]
          have HE2 : Hid (Ex.ins x l = (q ++ [x]) ++ l.drop j) := by unfold Hid; rw [HE.out, List.append_assoc]; rfl
          clear HQ HI HD
          go_wp2_with fail
          go_quiet (fail)
          go_wp2_with fail
          refine (refAdd_p HP.out HE.out _ w.heap.size _ (HW.out.drewN nq) HS.out).mono ?_
          rintro e w2 ⟨v2, rfl, ho2, g2⟩
          have HB2 : Hid (Below w.heap.size w w2) := (same_drewN bel nq).trans ((HW.out.drewN nq).base_below HS.out g2)
          have HO2 : Hid (OwnE _ _ _ _ _) := ho2
          clear ho2 g2
          go_wp2
          go_roundw
          case rel => exact ⟨j, 1, q ++ [x], by omega, rfl, by go_num, by omega, fun h => by omega, fun _ => HE2.out, HO2, HB2.out⟩
          case measure => simp [intOf]
      · obtain rfl : f = 1 := by omega
        have HE : Hid (Ex.ins x l = q ++ X :: l.drop (j + 1)) := by unfold Hid; rw [HQ1.out rfl, HD.out]
        have HE2 : Hid (Ex.ins x l = (q ++ [X]) ++ l.drop (j + 1)) := by unfold Hid; rw [HE.out, List.append_assoc]; rfl
        clear HQ0 HQ1 HI HD
        go_wp2_with fail
        go_quiet (fail)
        go_wp2_with fail
        refine (refAdd_p HP.out HE.out _ w.heap.size _ (HW.out.drewN nq) HS.out).mono ?_
        rintro e w2 ⟨v2, rfl, ho2, g2⟩
        have HB2 : Hid (Below w.heap.size w w2) := (same_drewN bel nq).trans ((HW.out.drewN nq).base_below HS.out g2)
        have HO2 : Hid (OwnE _ _ _ _ _) := ho2
        clear ho2 g2
        go_wp2
        go_roundw
        case rel => exact ⟨j + 1, 1, q ++ [X], by omega, by go_num, rfl, by omega, fun h => by omega, fun _ => HE2.out, HO2, HB2.out⟩
        case measure => simp [intOf]; omega
    · obtain rfl : j = n := by omega
      have HZ : Hid (l.drop j = []) := List.drop_eq_nil_of_le (by rw [HL.out]; exact Nat.le_refl _)
      by_cases hf : f = 0
      · subst hf
        have HE : Hid (Ex.ins x l = q ++ x :: []) := by unfold Hid; rw [HQ0.out rfl, HZ.out]; rfl
        have HE2 : Hid (Ex.ins x l = (q ++ [x]) ++ l.drop j) := by unfold Hid; rw [HE.out, HZ.out, List.append_nil]
        clear HQ0 HQ1
        go_wp2_with fail
        go_quiet (fail)
        go_wp2_with fail
        refine (refAdd_p HP.out HE.out _ w.heap.size _ (HW.out.drewN nq) HS.out).mono ?_
        rintro e w2 ⟨v2, rfl, ho2, g2⟩
        have HB2 : Hid (Below w.heap.size w w2) := (same_drewN bel nq).trans ((HW.out.drewN nq).base_below HS.out g2)
        have HO2 : Hid (OwnE _ _ _ _ _) := ho2
        clear ho2 g2
        go_wp2
        go_roundw
        case rel => exact ⟨j, 1, q ++ [x], by omega, rfl, by go_num, by omega, fun h => by omega, fun _ => HE2.out, HO2, HB2.out⟩
        case measure => simp [intOf]
      · obtain rfl : f = 1 := by omega
        have HV : Hid (Ex.ins x l = q) := by unfold Hid; rw [HQ1.out rfl, HZ.out, List.append_nil]
        clear HQ0 HQ1
        go_wp2
        go_ret
        exact ⟨_, rfl, by rw [HV.out]; exact HW.out, bel⟩

end Go.Proofs.Ytlpmfbinemmikaa
