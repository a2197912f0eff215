/-
  Facts that the proof rests on, part 6. Conditions: those that each of them names.
-/
import Derived.BigQuiet
import Derived.Deep.QuietTactic
import Derived.Test.YtinlgoljaiolnaaRows
import Derived.Test.YtinlgoljaiolnaaBK04
namespace Go.Proofs.Ytinlgoljaiolnaa
open Go.RowKit
set_option linter.unusedVariables false
theorem on {w w1 w2 : World} (h : Below w.heap.size w w1) (k : Below w1.heap.size w1 w2) : Below w.heap.size w w2 := h.trans (k.mono h.size)
theorem ret_flag {b c : Bool} (h : b = true ↔ c = true) : Ending.returned (.bool b) = .returned (.bool c) := by rw [Bool.eq_iff_iff.2 h]
set_option maxHeartbeats 800000 in
theorem refFits_u (w : World) (a n : Int) (r : Bool) (hr : decide (Ex.Fits a n) = r) :
    Calls Try.prog 61 #[.int .i64 a, .int .i64 n] w fun e w' => e = .returned (.bool r) ∧ w = w' := by
  subst hr
  have HF : Hid (decide (Ex.Fits a n) = true ↔ 0 ≤ a ∧ 0 ≤ n ∧ a ≤ 65536 ∧ n ≤ 65536 - a) := by unfold Hid; exact ⟨fun h => of_decide_eq_true h, fun h => decide_eq_true h⟩
  generalize decide (Ex.Fits a n) = r at *
  go_enter Try.func61, Try.ntmps61
  go_wp2
  all_goals go_ret
  all_goals refine ⟨ret_flag ?_, rfl⟩
  all_goals rw [HF.out]
  all_goals first
    | omega
    | (simp only [decide_eq_true_eq]; omega)
    | (simp only [Bool.false_eq_true, false_iff]; omega)
theorem step_next {l : List Ext} {k : Nat} {hk : k < l.length} (h : Hid (∀ j (h : j < l.length), j < k → Ex.Step l j h)) (hs : Hid (Ex.Step l k hk)) : Hid (∀ j (h : j < l.length), j < k + 1 → Ex.Step l j h) := by
  intro j hj hlt
  by_cases e : j = k
  · subst e; exact hs
  · exact h.out j hj (by omega)
set_option maxHeartbeats 4000000 in
theorem refCheck5_u (w : World) (P : Nat → Prop) (a : Option Addr) (n c : Nat) (l : List Ext) (hL : rExts.rd w P [.slice a n c] l) :
    Calls Try.prog 47 #[.slice a n c] w fun e w' => e = .returned (.int .i64 (Ex.checkE l)) ∧ Below w.heap.size w w' := by
  obtain ⟨hl, hnc, hnil, hb⟩ := rList_len hL
  have hn : n ≤ 5864062014634 := by have : n * 24 ≤ 140737488351232 := hb; omega
  have HL : Hid _ := hl
  have HR : Hid _ := hL
  clear hl hnc hnil hb hL
  by_cases h1024 : 1024 < n
  · have E9 : Hid (Ex.checkE l = 9) := Ex.checkE_no (fun h => by have := h.1; rw [HL.out] at this; omega)
    go_enter Try.func47, Try.ntmps47
    go_wp2
    go_ret
    exact ⟨by rw [E9.out]; rfl, Below.refl _ _⟩
  go_enter Try.func47, Try.ntmps47
  go_wp2
  go_loopw [3] (fun i wr => ∃ k : Nat, k ≤ n ∧ i = .int .i64 k ∧ Hid (∀ j (h : j < l.length), j < k → Ex.Step l j h) ∧ Below w.heap.size w wr) (fun i _ => n - (intOf i).toNat)
  case atStart => exact ⟨0, Nat.zero_le _, rfl, (fun j _ h => by omega), Below.refl _ _⟩
  case round =>
    obtain ⟨k, hk, rfl, HK, bel⟩ := hrel
    by_cases hlt : k < n
    · have hkl : k < l.length := by rw [HL.out]; exact hlt
      have hAr := Rep.below HR.out bel
      obtain ⟨g, off, rfl, -, hgl, hat⟩ := rExts_at hAr (by omega)
      obtain ⟨c0, c1, c2, i0, i1, i2⟩ := hat k hkl
      have HAT : Hid _ := hat
      have HS : Hid (Ex.Step l k hkl ↔ (1 ≤ l[k].2.2 ∧ Ex.Fits l[k].1 l[k].2.2 ∧ Ex.Fits l[k].2.1 l[k].2.2) ∧ ∀ j (hj : j + 1 = k), Ex.Behind (l[j]'(by omega)) l[k]) := by unfold Hid Ex.Step Ex.One; exact Iff.rfl
      have HNO : Hid (¬ Ex.Step l k hkl → Ex.checkE l = 9) := fun h => Ex.checkE_no (fun ho => h (Ex.mays_steps.1 ho.2 k hkl))
      have hs0 := bel.size
      obtain ⟨w1, hw1, V1, b1, z1⟩ := boxedRow wr 80 [.int .i64 l[k].1, .int .i64 l[k].2.1, .int .i64 l[k].2.2]
      have d0 := V1.cell (j := 0) rfl
      have d1 := V1.cell (j := 1) rfl
      have d2 := V1.cell (j := 2) rfl
      have bel1 : Hid (Below w.heap.size w w1) := on bel b1
      have HB1 : Hid (Below wr.heap.size wr w1) := b1
      clear hat hAr V1 z1 b1
      obtain ⟨X, hX⟩ : ∃ X, X = l[k] := ⟨_, rfl⟩
      rw [← hX] at c0 c1 c2 i0 i1 i2 d0 d1 d2 hw1 HS
      have HX : Hid _ := hX
      clear hX i0 i1 i2
      by_cases e1 : X.2.2 < 1
      · have E9 : Hid (Ex.checkE l = 9) := HNO.out (fun h => by have := (HS.out.1 h).1.1; omega)
        go_wp2
        go_ret
        exact ⟨by rw [E9.out]; rfl, bel1.out⟩
      cases e2 : decide (Ex.Fits X.1 X.2.2)
      · have E9 : Hid (Ex.checkE l = 9) := HNO.out (fun h => absurd (HS.out.1 h).1.2.1 (of_decide_eq_false e2))
        go_wp2_with fail
        refine (refFits_u _ _ _ _ e2).mono ?_
        rintro e w9 ⟨rfl, rfl⟩
        go_wp2
        go_ret
        exact ⟨by rw [E9.out]; rfl, bel1.out⟩
      cases e3 : decide (Ex.Fits X.2.1 X.2.2)
      · have E9 : Hid (Ex.checkE l = 9) := HNO.out (fun h => absurd (HS.out.1 h).1.2.2 (of_decide_eq_false e3))
        go_wp2_with fail
        refine (refFits_u _ _ _ _ e2).mono ?_
        rintro e w9 ⟨rfl, rfl⟩
        go_wp2_with fail
        refine (refFits_u _ _ _ _ e3).mono ?_
        rintro e w9 ⟨rfl, rfl⟩
        go_wp2
        go_ret
        exact ⟨by rw [E9.out]; rfl, bel1.out⟩
      have HONE : Hid (1 ≤ X.2.2 ∧ Ex.Fits X.1 X.2.2 ∧ Ex.Fits X.2.1 X.2.2) := ⟨by omega, of_decide_eq_true e2, of_decide_eq_true e3⟩
      cases k with
      | zero =>
        simp only [Nat.zero_mul, Nat.add_zero] at c0 c1 c2
        have HNX : Hid (∀ j (h : j < l.length), j < 0 + 1 → Ex.Step l j h) := fun j hj hlt => by
          obtain rfl : j = 0 := by omega
          exact HS.out.2 ⟨HONE.out, fun j hj => by omega⟩
        go_wp2_with fail
        refine (refFits_u _ _ _ _ e2).mono ?_
        rintro e w9 ⟨rfl, rfl⟩
        go_wp2_with fail
        refine (refFits_u _ _ _ _ e3).mono ?_
        rintro e w9 ⟨rfl, rfl⟩
        go_wp2
        go_roundw
        case rel => exact ⟨0 + 1, by omega, by go_num, HNX, bel1.out⟩
        case measure => simp [intOf]; omega
      | succ m => 
        go_wp2_with fail
        refine (refFits_u _ _ _ _ e2).mono ?_
        rintro e w9 ⟨rfl, rfl⟩
        go_wp2_with fail
        refine (refFits_u _ _ _ _ e3).mono ?_
        rintro e w9 ⟨rfl, rfl⟩
        go_wp2
        have hml : m < l.length := by omega
        obtain ⟨y0, y1, y2, -⟩ := HAT.out m hml
        have hy0 := (HB1.out.cell (p := ⟨g, off + m * 3, none⟩) hgl).trans y0
        have hy1 := (HB1.out.cell (p := ⟨g, off + m * 3 + 1, none⟩) hgl).trans y1
        have hy2 := (HB1.out.cell (p := ⟨g, off + m * 3 + 2, none⟩) hgl).trans y2
        have hyo := (HK.out m hml (by omega)).1
        have HBH : Hid ((∀ j (hj : j + 1 = m + 1), Ex.Behind (l[j]'(by omega)) X) ↔ Ex.Behind l[m] X) := ⟨fun h => h m rfl, fun h j hj => by
          obtain rfl : j = m := (by omega)
          exact h⟩
        obtain ⟨Y, hY⟩ : ∃ Y, Y = l[m] := ⟨_, rfl⟩
        rw [← hY] at hy0 hy1 hy2 hyo HBH
        clear hY y0 y1 y2
        unfold Ex.One Ex.Fits at hyo
        obtain ⟨q1, ⟨q2, q3, q4, q5⟩, q6, q7, q8, q9⟩ := hyo
        have hmn : (m : Int) < (n : Int) := by omega
        go_quiet (fail)
        have D1 : Hid (Below w.heap.size w (w1.drewN nq)) := ⟨bel1.out.os, bel1.out.tape, bel1.out.output, bel1.out.size, bel1.out.block⟩
        by_cases c4 : X.1 < Y.1 + Y.2.2
        · have E9 : Hid (Ex.checkE l = 9) := HNO.out (fun h => by have := (HBH.out.1 (HS.out.1 h).2).1; omega)
          have c4' : decide (X.1 < Y.1 + Y.2.2) = true := decide_eq_true c4
          go_wp2_with fail
          go_quiet (fail)
          go_wp2
          go_ret
          exact ⟨by rw [E9.out]; rfl, ⟨D1.out.os, D1.out.tape, D1.out.output, D1.out.size, D1.out.block⟩⟩
        · have c4' : decide (X.1 < Y.1 + Y.2.2) = false := decide_eq_false c4
          by_cases c5 : X.1 = Y.1 + Y.2.2
          · have c5' : (X.1 == Y.1 + Y.2.2) = true := beq_iff_eq.2 c5
            have H5 : Hid _ := c5
            clear c5
            by_cases c6 : X.2.1 = Y.2.1 + Y.2.2
            · have c6' : (X.2.1 == Y.2.1 + Y.2.2) = true := beq_iff_eq.2 c6
              have E9 : Hid (Ex.checkE l = 9) := HNO.out (fun h => (HBH.out.1 (HS.out.1 h).2).2 ⟨H5.out, c6⟩)
              clear c6
              go_wp2_with fail
              go_quiet (fail)
              go_wp2
              go_ret
              exact ⟨by rw [E9.out]; rfl, ⟨D1.out.os, D1.out.tape, D1.out.output, D1.out.size, D1.out.block⟩⟩
            · have c6' : (X.2.1 == Y.2.1 + Y.2.2) = false := beq_eq_false_iff_ne.2 c6
              have HST : Hid (Ex.Step l (m + 1) hkl) := HS.out.2 ⟨HONE.out, HBH.out.2 ⟨by omega, fun h => c6 h.2⟩⟩
              clear c6
              go_wp2_with fail
              go_quiet (fail)
              go_wp2
              go_roundw
              case rel => exact ⟨m + 1 + 1, by omega, by go_num, step_next HK HST, ⟨D1.out.os, D1.out.tape, D1.out.output, D1.out.size, D1.out.block⟩⟩
              case measure => simp [intOf]; omega
          · have c5' : (X.1 == Y.1 + Y.2.2) = false := beq_eq_false_iff_ne.2 c5
            have HST : Hid (Ex.Step l (m + 1) hkl) := HS.out.2 ⟨HONE.out, HBH.out.2 ⟨by omega, fun h => c5 h.1⟩⟩
            clear c5
            go_wp2_with fail
            go_quiet (fail)
            go_wp2
            go_roundw
            case rel => exact ⟨m + 1 + 1, by omega, by go_num, step_next HK HST, ⟨D1.out.os, D1.out.tape, D1.out.output, D1.out.size, D1.out.block⟩⟩
            case measure => simp [intOf]; omega
    · obtain rfl : k = n := by omega
      have E0 : Hid (Ex.checkE l = 0) := Ex.checkE_ok ⟨by rw [HL.out]; omega, Ex.mays_steps.2 (fun j h => HK.out j h (by rw [← HL.out]; exact h))⟩
      go_wp2
      go_ret
      exact ⟨by rw [E0.out]; rfl, bel⟩
end Go.Proofs.Ytinlgoljaiolnaa
namespace Go.Proofs.Ytinlgoljaiolnaa
open Go.RowKit
set_option linter.unusedVariables false
theorem same_drewN {a w : World} {B : Nat} (h : Below B a w) (n : Nat) : Below B a (w.drewN n) := ⟨h.os, h.tape, h.output, h.size, h.block⟩
end Go.Proofs.Ytinlgoljaiolnaa
namespace Go.Proofs.Ytinlgoljaiolnaa
open Go.RowKit
set_option linter.unusedVariables false
def Small (x : Ext) : Prop := (-131072 ≤ x.1 ∧ x.1 ≤ 131072) ∧ (-131072 ≤ x.2.1 ∧ x.2.1 ≤ 131072) ∧ (-131072 ≤ x.2.2 ∧ x.2.2 ≤ 131072)
theorem Small.in3 {x : Ext} (h : Small x) : In3 x := by
  unfold Small at h
  unfold In3 In64
  omega
theorem Ex.add_none {l : List Ext} {x : Ext} (h : x.2.2 < 1) : Ex.add l x = l := by unfold Ex.add; rw [if_pos h]
theorem Ex.add_first {x : Ext} (h : ¬ x.2.2 < 1) : Ex.add [] x = [x] := by unfold Ex.add; rw [if_neg h]; rfl
theorem Ex.add_join {m : List Ext} {x y : Ext} (h : ¬ x.2.2 < 1) (hj : Ex.Joins y x) : Ex.add (m ++ [y]) x = (m ++ [y]).set m.length (y.1, y.2.1, y.2.2 + x.2.2) := by
  unfold Ex.add
  rw [if_neg h]
  simp only [List.getLast?_append, List.getLast?_singleton, Option.some_or]
  rw [if_pos hj]
  simp
theorem Ex.add_more {m : List Ext} {x y : Ext} (h : ¬ x.2.2 < 1) (hj : ¬ Ex.Joins y x) : Ex.add (m ++ [y]) x = m ++ [y] ++ [x] := by
  unfold Ex.add
  rw [if_neg h]
  simp only [List.getLast?_append, List.getLast?_singleton, Option.some_or]
  rw [if_neg hj]
theorem OwnE.drewN {e : TypeId} {w : World} {base : Nat} {v : Value} {l : List Ext} (h : OwnE e w base v l) (n : Nat) : OwnE e (w.drewN n) base v l := h.keep (fun _ _ _ => rfl)
theorem Ex.get_last (m : List Ext) (y : Ext) : ∃ h : m.length < (m ++ [y]).length, (m ++ [y])[m.length] = y := ⟨by simp, by simp⟩
end Go.Proofs.Ytinlgoljaiolnaa
