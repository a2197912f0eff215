/-
  The contract of the document's own Look: what some sectors are. Conditions: those that each contract names.
-/
import Derived.Test.YtlpmfbinemmikaaREP
import Derived.Deep.RegionHeldLaw
namespace Go.Proofs.Ytlpmfbinemmikaa
open Go.RowKit
set_option linter.unusedVariables false

set_option maxHeartbeats 2000000 in
theorem refLook_ok (w : World) (P : Nat → Prop) (a : Option Addr) (n c : Nat) (l : List Ext) (hL : rExts.rd w P [.slice a n c] l) (hO : Ex.Ok l) (v k : Int) (hf : Ex.Fits v k) :
    Calls Try.prog 13 #[.slice a n c, .int .i64 v, .int .i64 k] w fun e w' => ∃ b, e = .returned (.tuple #[b, .int .i64 0]) ∧ OwnE 24 w' w.heap.size b (Ex.look l v k) ∧ Below w.heap.size w w' := by
  obtain ⟨hl, hnc, hnil, hb⟩ := rList_len hL
  have hn : n ≤ 1024 := by have := hO.1; omega
  have HL : Hid _ := hl
  have HR : Hid _ := hL
  have HO : Hid _ := hO.2.1
  have HP : Hid _ := Ex.look_pieces hO hf
  have HC : Hid _ := Ex.checkE_ok hO
  have HF : Hid (decide (Ex.Fits v k) = true) := decide_eq_true hf
  unfold Ex.Fits at hf
  obtain ⟨f1, f2, f3, f4⟩ := hf
  have hmx := max_fact 3
  have hmn := min_fact 3
  clear hl hnc hnil hb hL hO
  go_enter Try.func13, Try.ntmps13
  go_wp2_with fail
  refine (refCheck5_u _ _ _ _ _ l HR.out).mono ?_
  rintro e w1 ⟨rfl, b1⟩
  rw [HC.out]
  go_wp2_with fail
  refine (refFits_u _ _ _ _ HF.out).mono ?_
  rintro e w9 ⟨rfl, rfl⟩
  go_wp2
  go_loopw [8, 9, 11] (fun o t i wr => ∃ (j : Nat) (q : List Ext) (A : Int), j ≤ n ∧ i = .int .i64 j ∧ t = .int .i64 A ∧ (v ≤ A ∧ A ≤ v + k) ∧ Hid (Ex.lookPs (v + k) v l = q ++ Ex.lookPs (v + k) A (l.drop j)) ∧ Hid (OwnE 24 wr w.heap.size o (Ex.addAll [] q)) ∧ Below w.heap.size w wr) (fun _ _ i _ => n - (intOf i).toNat)
  case atStart => exact ⟨0, [], v, Nat.zero_le _, rfl, rfl, by omega, rfl, OwnE.nil _ _ _, b1⟩
  case round =>
    obtain ⟨j, q, A, hj, rfl, rfl, ⟨hA1, hA2⟩, HQ, HW, bel⟩ := hrel
    have HS : Hid (w.heap.size ≤ wr.heap.size) := bel.size
    by_cases hlt : j < n
    · have hkl : j < l.length := by rw [HL.out]; exact hlt
      obtain ⟨g, off, rfl, -, hgw, -⟩ := rExts_at HR.out (by omega)
      have hAr := Rep.below HR.out bel
      obtain ⟨g', off', eg, -, hgl, hat⟩ := rExts_at hAr (by omega)
      simp only [Option.some.injEq, Addr.mk.injEq, and_true] at eg
      obtain ⟨rfl, rfl⟩ := eg
      obtain ⟨c0, c1, c2, -⟩ := hat j hkl
      have ho := HO.out l[j] (List.getElem_mem hkl)
      have HLK : Hid (∀ lo hi, max l[j].1 A = lo → min (l[j].1 + l[j].2.2) (v + k) = hi → Ex.lookPs (v + k) A (l.drop j) = if hi ≤ lo then Ex.lookPs (v + k) A (l.drop (j + 1)) else (A, -1, lo - A) :: (lo, l[j].2.1 + lo - l[j].1, hi - lo) :: Ex.lookPs (v + k) hi (l.drop (j + 1))) := fun lo hi e1 e2 => Ex.lookPs_at hkl e1 e2
      obtain ⟨X, hX⟩ : ∃ X, X = l[j] := ⟨_, rfl⟩
      rw [← hX] at c0 c1 c2 ho HLK
      clear hX hat hAr
      unfold Ex.One Ex.Fits at ho
      obtain ⟨q1, ⟨q2, q3, q4, q5⟩, q6, q7, q8, q9⟩ := ho
      have hkn : (j : Int) < (n : Int) := by omega
      have HGW : Hid (g < w.heap.size) := hgw
      go_wp2_with fail
      go_quiet (fail)
      have HK := HLK.out _ _ rfl rfl
      clear HLK
      generalize hlo : max X.1 A = lo at *
      generalize hhi : min (X.1 + X.2.2) (v + k) = hi at *
      have r1 : X.1 ≤ lo ∧ A ≤ lo ∧ (lo = X.1 ∨ lo = A) := by omega
      have r2 : hi ≤ X.1 + X.2.2 ∧ hi ≤ v + k ∧ (hi = X.1 + X.2.2 ∨ hi = v + k) := by omega
      have r3 : 0 ≤ lo ∧ 0 ≤ hi ∨ hi ≤ lo := by omega
      clear hlo hhi
      by_cases hge : hi ≤ lo
      · rw [if_pos hge] at HK
        have HQ2 : Hid (Ex.lookPs (v + k) v l = q ++ Ex.lookPs (v + k) A (l.drop (j + 1))) := by unfold Hid; rw [HQ.out, HK]
        have HW2 : Hid (OwnE _ _ _ _ _) := HW.out.drewN nq
        clear HK
        go_wp2
        go_roundw
        case rel => exact ⟨j + 1, q, A, by omega, by go_num, rfl, by omega, HQ2, HW2, same_drewN bel nq⟩
        case measure => simp [intOf]; omega
      · rw [if_neg hge] at HK
        obtain ⟨r4, r5, r6, r7, r8⟩ : 0 ≤ lo ∧ lo ≤ 65536 ∧ 0 ≤ hi ∧ hi ≤ 65536 ∧ lo < hi := by omega
        clear r3
        have HQ2 : Hid (Ex.lookPs (v + k) v l = q ++ (A, -1, lo - A) :: (lo, X.2.1 + lo - X.1, hi - lo) :: Ex.lookPs (v + k) hi (l.drop (j + 1))) := by unfold Hid; rw [HQ.out, HK]
        clear HK HQ
        go_wp2_with fail
        refine (refAdd_p (p := (A, -1, lo - A)) HP.out HQ2.out _ w.heap.size _ (HW.out.drewN nq) HS.out).mono ?_
        rintro e w2 ⟨v2, rfl, ho2, g2⟩
        have hb2 := (HW.out.drewN nq).base_below HS.out g2
        have HB2 : Hid (Below w.heap.size w w2) := (same_drewN bel nq).trans hb2
        have HO2 : Hid (OwnE _ _ _ _ _) := ho2
        have e0 : w2.cell? ⟨g, off + j * 3, none⟩ = some (.int .i64 X.1) := (hb2.cell (p := ⟨g, off + j * 3, none⟩) HGW.out).trans c0
        have e1 : w2.cell? ⟨g, off + j * 3 + 1, none⟩ = some (.int .i64 X.2.1) := (hb2.cell (p := ⟨g, off + j * 3 + 1, none⟩) HGW.out).trans c1
        clear ho2 g2 hb2 c0 c1 c2
        go_wp2_with fail
        have S0 : w2.drew.cell? ⟨g, off + j * 3, none⟩ = some (.int .i64 X.1) ∧ w2.drew.cell? ⟨g, off + j * 3 + 1, none⟩ = some (.int .i64 X.2.1) := ⟨e0, e1⟩
        have HQ3 : Hid (Ex.lookPs (v + k) v l = (q ++ [(A, -1, lo - A)]) ++ (lo, X.2.1 + lo - X.1, hi - lo) :: Ex.lookPs (v + k) hi (l.drop (j + 1))) := by unfold Hid; rw [HQ2.out, List.append_assoc]; rfl
        have HO2d : Hid (OwnE 24 w2.drew w.heap.size v2 (Ex.addAll [] (q ++ [(A, -1, lo - A)]))) := HO2.out.keep (fun _ _ _ => rfl)
        have HS2 : Hid (w.heap.size ≤ w2.drew.heap.size) := HB2.out.size
        have hadd := refAdd_p (p := (lo, X.2.1 + lo - X.1, hi - lo)) HP.out HQ3.out w2.drew w.heap.size v2 HO2d.out HS2.out
        have HADD : Hid _ := hadd
        clear hadd
        have ew1 : IntKind.i64.wrap (IntKind.i64.wrap (X.2.1 + lo) - X.1) = X.2.1 + lo - X.1 := by rw [IntKind.wrap_i64, IntKind.wrap_i64]; omega
        have ew2 : IntKind.i64.wrap (hi - lo) = hi - lo := by rw [IntKind.wrap_i64]; omega
        go_region_held_law (fun w' : World => w'.cell? ⟨g, off + j * 3, none⟩ = some (.int .i64 X.1) ∧ w'.cell? ⟨g, off + j * 3 + 1, none⟩ = some (.int .i64 X.2.1))
          (first | exact S0 | exact S3)
          (first
          | (go_simp; go_at_call 36; refine Calls.mono HADD.out ?_
             rintro e w3 ⟨v3, rfl, ho3, g3⟩
             have hb3 : Below w.heap.size w2.drew w3 := HO2d.out.base_below HS2.out g3
             have HB3 : Hid (Below w.heap.size w w3) := HB2.out.drew.trans hb3
             have HO3 : Hid (OwnE _ _ _ _ _) := ho3
             have S3 := (⟨(hb3.cell (p := ⟨g, off + j * 3, none⟩) HGW.out).trans e0, (hb3.cell (p := ⟨g, off + j * 3 + 1, none⟩) HGW.out).trans e1⟩ : w3.cell? ⟨g, off + j * 3, none⟩ = some (.int .i64 X.1) ∧ w3.cell? ⟨g, off + j * 3 + 1, none⟩ = some (.int .i64 X.2.1))
             clear ho3 g3 hb3; go_simp))
        have HQ4 : Hid (Ex.lookPs (v + k) v l = (q ++ [(A, -1, lo - A)] ++ [(lo, X.2.1 + lo - X.1, hi - lo)]) ++ Ex.lookPs (v + k) hi (l.drop (j + 1))) := by unfold Hid; rw [HQ3.out, List.append_assoc, List.append_assoc, List.append_assoc]; rfl
        clear S0 S3 e0 e1 HQ2 HQ3
        go_wp2
        go_roundw
        case rel => exact ⟨j + 1, _, hi, by omega, by go_num, rfl, by omega, HQ4, HO3, HB3.out⟩
        case measure => simp [intOf]; omega
    · obtain rfl : j = n := by omega
      have HD : Hid (Ex.lookPs (v + k) v l = q ++ (A, -1, v + k - A) :: []) := by unfold Hid; rw [HQ.out, List.drop_eq_nil_of_le (by rw [HL.out]; exact Nat.le_refl _)]; rfl
      have HV : Hid (Ex.look l v k = Ex.addAll [] (q ++ [(A, -1, v + k - A)])) := by unfold Hid Ex.look; rw [HD.out]
      go_wp2_with fail
      refine (refAdd_p (p := (A, -1, v + k - A)) HP.out HD.out _ w.heap.size _ HW.out HS.out).mono ?_
      rintro e w2 ⟨v2, rfl, ho2, g2⟩
      have HB2 : Hid (Below w.heap.size w w2) := bel.trans (HW.out.base_below HS.out g2)
      have HO2 : Hid (OwnE _ _ _ _ _) := ho2
      clear ho2 g2
      go_wp2
      go_ret2
      exact ⟨_, rfl, by rw [HV.out]; exact HO2.out, HB2.out⟩

end Go.Proofs.Ytlpmfbinemmikaa
