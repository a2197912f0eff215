/-
  The document's own Add, of pieces one by one. Conditions: those that each contract names.
-/
import Derived.Test.YtlpmfbinemmikaaRED
import Derived.Test.YtlpmfbinemmikaaEPieces
import Derived.Test.YtlpmfbinemmikaaEMax
namespace Go.Proofs.Ytlpmfbinemmikaa
open Go.RowKit
set_option linter.unusedVariables false

theorem refAdd_p {ps q r : List Ext} {p : Ext} (h : Ex.Pieces ps) (e : ps = q ++ p :: r) (w : World) (base : Nat) (v : Value) (hO : OwnE 24 w base v (Ex.addAll [] q)) (hbase : base ≤ w.heap.size) :
    Calls Try.prog 36 #[v, .agg #[.int .i64 p.1, .int .i64 p.2.1, .int .i64 p.2.2]] w fun e w' => ∃ v', e = .returned v' ∧ OwnE 24 w' base v' (Ex.addAll [] (q ++ [p])) ∧ Grew w w' v v' := by
  subst e
  have hq := h.front
  have hs : ∀ {x : Ext}, (0 ≤ x.1 ∧ x.1 ≤ 65536) ∧ (-1 ≤ x.2.1 ∧ x.2.1 ≤ 131072) ∧ (0 ≤ x.2.2 ∧ x.2.2 ≤ 65536) → Small x := fun k => by unfold Small; omega
  have hc := hq.count
  refine (refAdd_u w base v (Ex.addAll [] q) p hO hbase (by omega) (fun y hy => hs (hq.made hy)) (hs (h.small (by simp)))).mono ?_
  rintro e w' ⟨v', rfl, h1, h2⟩
  refine ⟨v', rfl, ?_, h2⟩
  rw [Ex.addAll_append]
  exact h1

set_option maxHeartbeats 4000000 in
theorem refWithout_u (w : World) (P : Nat → Prop) (a : Option Addr) (n c : Nat) (l : List Ext) (hL : rExts.rd w P [.slice a n c] l) (hO : Ex.Ok l) (v k : Int) (hf : Ex.Fits v k) :
    Calls Try.prog 39 #[.slice a n c, .int .i64 v, .int .i64 k] w fun e w' => ∃ b, e = .returned b ∧ OwnE 24 w' w.heap.size b (Ex.without l v k) ∧ Below w.heap.size w w' := by
  obtain ⟨hl, hnc, hnil, hb⟩ := rList_len hL
  have hn : n ≤ 1024 := by have := hO.1; omega
  have HL : Hid _ := hl
  have HR : Hid _ := hL
  have HO : Hid _ := hO.2.1
  have HP : Hid _ := Ex.cut_pieces hO v k
  unfold Ex.Fits at hf
  obtain ⟨f1, f2, f3, f4⟩ := hf
  have hmx := max_fact 3
  have hmn := min_fact 3
  clear hl hnc hnil hb hL hO
  go_enter Try.func39, Try.ntmps39
  go_wp2
  go_loopw [7, 8] (fun o i wr => ∃ j : Nat, j ≤ n ∧ i = .int .i64 j ∧ Hid (OwnE 24 wr w.heap.size o (Ex.addAll [] ((l.take j).flatMap (Ex.cutOne v k)))) ∧ Below w.heap.size w wr) (fun _ i _ => n - (intOf i).toNat)
  case atStart => exact ⟨0, Nat.zero_le _, rfl, OwnE.nil _ _ _, Below.refl _ _⟩
  case round =>
    obtain ⟨j, hj, rfl, HW, bel⟩ := hrel
    by_cases hlt : j < n
    · have hkl : j < l.length := by rw [HL.out]; exact hlt
      have hAr := Rep.below HR.out bel
      obtain ⟨g, off, rfl, -, hgl, hat⟩ := rExts_at hAr (by omega)
      obtain ⟨c0, c1, c2, -⟩ := hat j hkl
      have ho := HO.out l[j] (List.getElem_mem hkl)
      have HE : Hid _ := Ex.flat_at (f := Ex.cutOne v k) l j hkl
      have HN : Hid _ := Ex.flat_next (f := Ex.cutOne v k) l j hkl
      obtain ⟨X, hX⟩ : ∃ X, X = l[j] := ⟨_, rfl⟩
      rw [← hX] at c0 c1 c2 ho HE HN
      clear hX hat hAr
      unfold Ex.One Ex.Fits at ho
      obtain ⟨q1, ⟨q2, q3, q4, q5⟩, q6, q7, q8, q9⟩ := ho
      have hkn : (j : Int) < (n : Int) := by omega
      obtain ⟨w1, hw1, V1, b1, -⟩ := boxedRow wr 24 [.int .i64 X.1, .int .i64 X.2.1, .int .i64 X.2.2]
      have d0 := V1.cell (j := 0) rfl
      have d1 := V1.cell (j := 1) rfl
      have d2 := V1.cell (j := 2) rfl
      have B1 : Hid (Below w.heap.size w w1) := on bel b1
      have HW1 : Hid (OwnE _ _ _ _ _) := HW.out.below b1
      have HV1 : Hid (Row _ _ _ _) := V1
      clear V1 b1
      have HS1 : Hid (w.heap.size ≤ w1.heap.size) := B1.out.size
      have HB1 : Hid (wr.heap.size < w1.heap.size) := HV1.out.lt
      have HOW : Hid (∀ b, u7.ownBlock = some b → w.heap.size ≤ b ∧ b < wr.heap.size) := fun b e => HW.out.row.lt b e
      go_wp2_with fail
      go_quiet (fail)
      generalize hlo : min (X.1 + X.2.2) (max X.1 v) = lo at *
      generalize hhi : max X.1 (min (X.1 + X.2.2) (v + k)) = hi at *
      have r1 : X.1 ≤ lo ∧ lo ≤ X.1 + X.2.2 := by omega
      have r2 : X.1 ≤ hi ∧ hi ≤ X.1 + X.2.2 := by omega
      have HC : Hid _ := Ex.cutOne_low hlo hhi
      clear hlo hhi
      by_cases hge : hi ≤ lo
      · have hcut : Ex.cutOne v k X = [X] := by rw [HC.out, if_pos hge]
        rw [hcut] at HE HN
        clear hcut HC
        go_wp2_with fail
        refine (refAdd_p HP.out HE.out _ w.heap.size _ (HW1.out.drewN nq) HS1.out).mono ?_
        rintro e w2 ⟨v2, rfl, ho2, g2⟩
        have HB2 : Hid (Below w.heap.size w w2) := (same_drewN B1.out nq).trans ((HW1.out.drewN nq).base_below HS1.out g2)
        have HO2 : Hid (OwnE _ _ _ _ _) := ho2
        clear ho2 g2
        go_wp2
        go_roundw
        case rel => exact ⟨j + 1, by omega, by go_num, by rw [HN.out]; exact HO2.out, HB2.out⟩
        case measure => simp [intOf]; omega
      · have hcut : Ex.cutOne v k X = [(X.1, X.2.1, lo - X.1), (hi, X.2.1 + hi - X.1, X.1 + X.2.2 - hi)] := by rw [HC.out, if_neg hge]
        rw [hcut] at HE HN
        clear hcut HC
        go_wp2_with fail
        refine (refAdd_p (p := (X.1, X.2.1, lo - X.1)) HP.out HE.out _ w.heap.size _ (HW1.out.drewN nq) HS1.out).mono ?_
        rintro e w2 ⟨v2, rfl, ho2, g2⟩
        have HB2 : Hid (Below w.heap.size w w2) := (same_drewN B1.out nq).trans ((HW1.out.drewN nq).base_below HS1.out g2)
        have HO2 : Hid (OwnE _ _ _ _ _) := ho2
        have V2 : Row w2 wr.heap.size 24 [.int .i64 X.1, .int .i64 X.2.1, .int .i64 X.2.2] := HV1.out.keep (g2.block wr.heap.size HB1.out (fun e => by have := (HOW.out _ e.symm).2; omega))
        have d0' := V2.cell (j := 0) rfl
        have d1' := V2.cell (j := 1) rfl
        have d2' := V2.cell (j := 2) rfl
        clear ho2 g2 V2 d0 d1 d2
        go_wp2_with fail
        refine (refAdd_p (p := (hi, X.2.1 + hi - X.1, X.1 + X.2.2 - hi)) (r := (l.drop (j + 1)).flatMap (Ex.cutOne v k)) HP.out (by rw [HE.out, List.append_assoc]; rfl) _ w.heap.size _ HO2.out HB2.out.size).mono ?_
        rintro e w3 ⟨v3, rfl, ho3, g3⟩
        have HB3 : Hid (Below w.heap.size w w3) := HB2.out.trans (HO2.out.base_below HB2.out.size g3)
        have HO3 : Hid (OwnE _ _ _ _ _) := ho3
        clear ho3 g3
        go_wp2
        go_roundw
        case rel => exact ⟨j + 1, by omega, by go_num, by rw [HN.out]; have h := HO3.out; rw [List.append_assoc] at h; exact h, HB3.out⟩
        case measure => simp [intOf]; omega
    · obtain rfl : j = n := by omega
      have HV : Hid (Ex.without l v k = Ex.addAll [] ((l.take j).flatMap (Ex.cutOne v k))) := by unfold Hid Ex.without; rw [List.take_of_length_le (by rw [HL.out]; exact Nat.le_refl _)]
      go_wp2
      go_ret
      exact ⟨_, rfl, by rw [HV.out]; exact HW.out, bel⟩

end Go.Proofs.Ytlpmfbinemmikaa
