/-
  The contracts of the document's own At and Find of a map. Conditions: those that each contract names.
-/
import Derived.Test.YtinlgoljaiolnaaREA
namespace Go.Proofs.Ytinlgoljaiolnaa
open Go.RowKit
set_option linter.unusedVariables false

theorem Ex.get_drop {l : List Ext} {k : Nat} (hk : k < l.length) (v : Int) : Ex.get (l.drop k) v = if l[k].1 ≤ v ∧ v < l[k].1 + l[k].2.2 then some (Ex.val l[k] v) else Ex.get (l.drop (k + 1)) v := by
  rw [List.drop_eq_getElem_cons hk]
  rfl

theorem same_drewN {a w : World} {B : Nat} (h : Below B a w) (n : Nat) : Below B a (w.drewN n) := ⟨h.os, h.tape, h.output, h.size, h.block⟩

set_option maxHeartbeats 2000000 in
theorem refAt_u (w : World) (P : Nat → Prop) (a : Option Addr) (n c : Nat) (l : List Ext) (hL : rExts.rd w P [.slice a n c] l) (hO : ∀ x ∈ l, Ex.One x) (v : Int) (h0 : 0 ≤ v) (h1 : v < 65536) :
    Calls Try.prog 29 #[.slice a n c, .int .i64 v] w fun e w' => e = .returned (.int .i64 (Ex.at_ l v)) ∧ Below w.heap.size w w' := by
  obtain ⟨hl, hnc, hnil, hb⟩ := rList_len hL
  have hn : n ≤ 5864062014634 := by have : n * 24 ≤ 140737488351232 := hb; omega
  have HL : Hid _ := hl
  have HR : Hid _ := hL
  have HO : Hid _ := hO
  clear hl hnc hnil hb hL hO
  go_enter Try.func29, Try.ntmps29
  go_wp2
  go_loopw [5] (fun i wr => ∃ k : Nat, k ≤ n ∧ i = .int .i64 k ∧ Hid (Ex.get l v = Ex.get (l.drop k) v) ∧ Below w.heap.size w wr) (fun i _ => n - (intOf i).toNat)
  case atStart => exact ⟨0, Nat.zero_le _, rfl, rfl, Below.refl _ _⟩
  case round =>
    obtain ⟨k, hk, rfl, HK, bel⟩ := hrel
    by_cases hlt : k < n
    · have hkl : k < l.length := by rw [HL.out]; exact hlt
      have hAr := Rep.below HR.out bel
      obtain ⟨g, off, rfl, -, hgl, hat⟩ := rExts_at hAr (by omega)
      obtain ⟨c0, c1, c2, -⟩ := hat k hkl
      have ho := HO.out l[k] (List.getElem_mem hkl)
      have HG : Hid _ := Ex.get_drop hkl v
      obtain ⟨X, hX⟩ : ∃ X, X = l[k] := ⟨_, rfl⟩
      rw [← hX] at c0 c1 c2 ho HG
      clear hX hat hAr
      unfold Ex.One Ex.Fits at ho
      obtain ⟨q1, ⟨q2, q3, q4, q5⟩, q6, q7, q8, q9⟩ := ho
      have hkn : (k : Int) < (n : Int) := by omega
      by_cases e1 : X.1 ≤ v
      · have e1' : decide (X.1 ≤ v) = true := decide_eq_true e1
        by_cases e2 : v - X.1 < X.2.2
        · have e2' : decide (v - X.1 < X.2.2) = true := decide_eq_true e2
          have HV : Hid (Ex.at_ l v = X.2.1 + v - X.1) := by
            unfold Hid Ex.at_
            rw [HK.out, HG.out, if_pos (by omega)]
            unfold Ex.val
            rw [if_neg (by omega)]
            rfl
          go_wp2_with fail
          go_quiet (fail)
          go_wp2_with fail
          go_quiet (fail)
          go_wp2
          go_ret
          exact ⟨by rw [HV.out]; rfl, same_drewN (same_drewN bel _) _⟩
        · have e2' : decide (v - X.1 < X.2.2) = false := decide_eq_false e2
          have HN : Hid (Ex.get l v = Ex.get (l.drop (k + 1)) v) := by unfold Hid; rw [HK.out, HG.out, if_neg (by omega)]
          go_wp2_with fail
          go_quiet (fail)
          go_wp2
          go_roundw
          case rel => exact ⟨k + 1, by omega, by go_num, HN, same_drewN bel _⟩
          case measure => simp [intOf]; omega
      · have e1' : decide (X.1 ≤ v) = false := decide_eq_false e1
        have HN : Hid (Ex.get l v = Ex.get (l.drop (k + 1)) v) := by unfold Hid; rw [HK.out, HG.out, if_neg (by omega)]
        go_wp2_with fail
        go_quiet (fail)
        go_wp2
        go_roundw
        case rel => exact ⟨k + 1, by omega, by go_num, HN, same_drewN bel _⟩
        case measure => simp [intOf]; omega
    · obtain rfl : k = n := by omega
      have HV : Hid (Ex.at_ l v = -1) := by
        unfold Hid Ex.at_
        rw [HK.out, List.drop_eq_nil_of_le (by rw [HL.out]; exact Nat.le_refl _)]
        rfl
      go_wp2
      go_ret
      exact ⟨by rw [HV.out]; rfl, bel⟩

end Go.Proofs.Ytinlgoljaiolnaa
