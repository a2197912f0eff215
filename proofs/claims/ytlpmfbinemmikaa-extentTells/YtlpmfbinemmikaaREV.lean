/-
  The contracts of the document's own Look and Cut, at any arguments. Conditions: those that each contract names.
-/
import Derived.Test.YtlpmfbinemmikaaREL
namespace Go.Proofs.Ytlpmfbinemmikaa
open Go.RowKit
set_option linter.unusedVariables false

theorem refLook_u (w : World) (P : Nat → Prop) (a : Option Addr) (n c : Nat) (l : List Ext) (hL : rExts.rd w P [.slice a n c] l) (v k : Int) :
    Calls Try.prog 13 #[.slice a n c, .int .i64 v, .int .i64 k] w fun e w' => ∃ b, e = .returned (.tuple #[b, .int .i64 (Ex.lookE l v k)]) ∧ OwnE 24 w' w.heap.size b (Ex.lookL l v k) ∧ Below w.heap.size w w' := by
  by_cases hO : Ex.Ok l
  · by_cases hf : Ex.Fits v k
    · have e1 : Ex.lookE l v k = 0 := Ex.lookE_zero.2 ⟨hO, hf⟩
      have e2 : Ex.lookL l v k = Ex.look l v k := if_pos e1
      rw [e1, e2]
      exact refLook_ok w P a n c l hL hO v k hf
    · have e1 : Ex.lookE l v k = 4 := by unfold Ex.lookE; rw [if_pos hO, if_neg hf]
      have e2 : Ex.lookL l v k = [] := if_neg (by rw [e1]; decide)
      rw [e1, e2]
      have HR : Hid _ := hL
      have HC : Hid _ := Ex.checkE_ok hO
      have HF : Hid (decide (Ex.Fits v k) = false) := decide_eq_false hf
      clear hL hO hf e1 e2
      go_enter Try.func13, Try.ntmps13
      go_wp2_with fail
      refine (refCheck5_u _ _ _ _ _ l HR.out).mono ?_
      rintro e w1 ⟨rfl, b1⟩
      rw [HC.out]
      go_wp2_with fail
      refine (refFits_u _ _ _ _ HF.out).mono ?_
      rintro e w9 ⟨rfl, rfl⟩
      go_wp2
      go_ret2
      exact ⟨_, rfl, OwnE.nil _ _ _, b1⟩
  · have e1 : Ex.lookE l v k = 9 := by unfold Ex.lookE; rw [if_neg hO]
    have e2 : Ex.lookL l v k = [] := if_neg (by rw [e1]; decide)
    rw [e1, e2]
    have HR : Hid _ := hL
    have HC : Hid _ := Ex.checkE_no hO
    clear hL hO e1 e2
    go_enter Try.func13, Try.ntmps13
    go_wp2_with fail
    refine (refCheck5_u _ _ _ _ _ l HR.out).mono ?_
    rintro e w1 ⟨rfl, b1⟩
    rw [HC.out]
    go_wp2
    go_ret2
    exact ⟨_, rfl, OwnE.nil _ _ _, b1⟩

theorem refCut_u (w : World) (P : Nat → Prop) (a : Option Addr) (n c : Nat) (l : List Ext) (hL : rExts.rd w P [.slice a n c] l) (v k : Int) :
    Calls Try.prog 15 #[.slice a n c, .int .i64 v, .int .i64 k] w fun e w' => ∃ b, e = .returned (.tuple #[b, .int .i64 (Ex.cutE l v k)]) ∧ OwnE 24 w' w.heap.size b (Ex.cutL l v k) ∧ Below w.heap.size w w' := by
  by_cases hO : Ex.Ok l
  · by_cases hf : Ex.Fits v k
    · have HR : Hid _ := hL
      have HOk : Hid _ := hO
      have HC : Hid _ := Ex.checkE_ok hO
      have HFt : Hid _ := hf
      have HF : Hid (decide (Ex.Fits v k) = true) := decide_eq_true hf
      have hcount := (Ex.cut_pieces hO v k).count
      have hcount' : (Ex.without l v k).length ≤ 100000 := hcount
      obtain ⟨m, hm⟩ : ∃ m, m = (Ex.without l v k).length := ⟨_, rfl⟩
      have HM : Hid _ := hm
      rw [← hm] at hcount'
      have HE : Hid (Ex.cutE l v k = if m ≤ 1024 then 0 else 51) := by unfold Hid Ex.cutE; rw [if_pos hO, if_pos hf, hm]
      clear hL hO hf hcount hm
      go_enter Try.func15, Try.ntmps15
      go_wp2_with fail
      refine (refCheck5_u _ _ _ _ _ l HR.out).mono ?_
      rintro e w1 ⟨rfl, b1⟩
      rw [HC.out]
      go_wp2_with fail
      refine (refFits_u _ _ _ _ HF.out).mono ?_
      rintro e w9 ⟨rfl, rfl⟩
      go_wp2_with fail
      refine (refWithout_u _ _ _ _ _ l (Rep.below HR.out b1) HOk.out v k HFt.out).mono ?_
      rintro e w2 ⟨b2, rfl, ho2, bb2⟩
      obtain ⟨a3, c3, rfl, -, -⟩ := ho2.slice
      have HO2 : Hid (OwnE 24 w2 w1.heap.size (.slice a3 (Ex.without l v k).length c3) (Ex.without l v k)) := ho2
      have BB : Hid (Below w.heap.size w w2) := on b1 bb2
      have HS : Hid (w.heap.size ≤ w1.heap.size) := b1.size
      clear ho2 bb2 b1
      rw [← HM.out] at HO2 ⊢
      by_cases hle : m ≤ 1024
      · rw [if_pos hle] at HE
        have HL : Hid (Ex.cutL l v k = Ex.without l v k) := if_pos HE.out
        go_wp2
        go_ret2
        exact ⟨_, by rw [HE.out]; rfl, by rw [HL.out]; exact HO2.out.mono HS.out, BB.out⟩
      · rw [if_neg hle] at HE
        have HL : Hid (Ex.cutL l v k = []) := if_neg (by rw [HE.out]; decide)
        go_wp2
        go_ret2
        exact ⟨_, by rw [HE.out]; rfl, by rw [HL.out]; exact OwnE.nil _ _ _, BB.out⟩
    · have e1 : Ex.cutE l v k = 4 := by unfold Ex.cutE; rw [if_pos hO, if_neg hf]
      have e2 : Ex.cutL l v k = [] := if_neg (by rw [e1]; decide)
      rw [e1, e2]
      have HR : Hid _ := hL
      have HC : Hid _ := Ex.checkE_ok hO
      have HF : Hid (decide (Ex.Fits v k) = false) := decide_eq_false hf
      clear hL hO hf e1 e2
      go_enter Try.func15, Try.ntmps15
      go_wp2_with fail
      refine (refCheck5_u _ _ _ _ _ l HR.out).mono ?_
      rintro e w1 ⟨rfl, b1⟩
      rw [HC.out]
      go_wp2_with fail
      refine (refFits_u _ _ _ _ HF.out).mono ?_
      rintro e w9 ⟨rfl, rfl⟩
      go_wp2
      go_ret2
      exact ⟨_, rfl, OwnE.nil _ _ _, b1⟩
  · have e1 : Ex.cutE l v k = 9 := by unfold Ex.cutE; rw [if_neg hO]
    have e2 : Ex.cutL l v k = [] := if_neg (by rw [e1]; decide)
    rw [e1, e2]
    have HR : Hid _ := hL
    have HC : Hid _ := Ex.checkE_no hO
    clear hL hO e1 e2
    go_enter Try.func15, Try.ntmps15
    go_wp2_with fail
    refine (refCheck5_u _ _ _ _ _ l HR.out).mono ?_
    rintro e w1 ⟨rfl, b1⟩
    rw [HC.out]
    go_wp2
    go_ret2
    exact ⟨_, rfl, OwnE.nil _ _ _, b1⟩

end Go.Proofs.Ytlpmfbinemmikaa
