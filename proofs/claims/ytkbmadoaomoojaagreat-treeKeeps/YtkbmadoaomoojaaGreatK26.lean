/-
  Facts that the proof rests on, part 27. Conditions: those that each of them names.
-/
import Derived.Test.YtkbmadoaomoojaaGreatK22
import Derived.Test.YtkbmadoaomoojaaGreatK24
namespace Go.Proofs.YtkbmadoaomoojaaGreat
set_option maxRecDepth 20000
open Go.RowKit Go.Shelf
set_option linter.unusedVariables false
attribute [local go_sem] Oper.semAt_some
def gcuts (b : Nat) : Nat → Nat → Nat → Nat → List (Array Value)
 | 0, _, _, _ => []
 | c + 1, off, n, cap => #[.slice (some ⟨b, off, none⟩) ((n + c) / (c + 1)) cap] :: gcuts b c (off + (n + c) / (c + 1) * 2) (n - (n + c) / (c + 1)) (cap - (n + c) / (c + 1))
theorem gcuts_length (b : Nat) : ∀ (c off n cap : Nat), (gcuts b c off n cap).length = c
 | 0, _, _, _ => rfl
 | c + 1, off, n, cap => by unfold gcuts; rw [List.length_cons, gcuts_length b c]
def gmany (n most : Nat) : Nat := (n + most - 1) / most
theorem gk_le (n c : Nat) : (n + c) / (c + 1) ≤ n := by
 rw [Nat.div_le_iff_le_mul_add_pred (by omega)]
 have : n ≤ (c + 1) * n := Nat.le_mul_of_pos_left n (by omega)
 omega
def GRel (J : Nat → World → Prop) (gl : List (Array Value)) (b K0 n : Nat) (v i : Value) (wr : World) : Prop :=
 ∃ c' j : Nat, i = .int .i64 c' ∧ j + c' = K0 ∧ Hid (J j wr) ∧ (0 < c' → ∃ off' n' cap', v = .slice (some ⟨b, off', none⟩) n' cap' ∧ n' ≤ cap' ∧ n' ≤ n ∧ c' ≤ n' ∧ Hid (gcuts b c' off' n' cap' = gl.drop j))
theorem GRel.of {J : Nat → World → Prop} {gl : List (Array Value)} {b K0 n : Nat} {v i : Value} {wr : World}
 (h : ∃ c' j : Nat, i = .int .i64 c' ∧ j + c' = K0 ∧ Hid (J j wr) ∧ (0 < c' → ∃ off' n' cap', v = .slice (some ⟨b, off', none⟩) n' cap' ∧ n' ≤ cap' ∧ n' ≤ n ∧ c' ≤ n' ∧ Hid (gcuts b c' off' n' cap' = gl.drop j))) : GRel J gl b K0 n v i wr := h
theorem gk_left {n c : Nat} (h : c + 1 ≤ n) : c ≤ n - (n + c) / (c + 1) := by
 have h1 : (n + c) / (c + 1) * (c + 1) ≤ n + c := Nat.div_mul_le_self _ _
 generalize (n + c) / (c + 1) = k at *
 by_cases hk : k ≤ n - c
 · omega
 · have : (n - c + 1) * (c + 1) ≤ k * (c + 1) := Nat.mul_le_mul_right _ (by omega)
   have h2 : (n - c + 1) * (c + 1) = (n - c) * c + (n - c) + c + 1 := by rw [Nat.add_mul, Nat.mul_add]; omega
   have h3 : c ≤ (n - c) * c := Nat.le_mul_of_pos_left c (by omega)
   omega
theorem gmany_le {n most : Nat} (hm : 1 ≤ most) : gmany n most ≤ n := by
 unfold gmany
 rw [Nat.div_le_iff_le_mul_add_pred (by omega)]
 have : n ≤ most * n := Nat.le_mul_of_pos_left n (by omega)
 omega
theorem groupsI_u (w : World) (a : Option Addr) (n c : Nat) (m : Int) :
 Calls Tryz.prog 76 #[.slice a n c, .int .i64 m] w fun e w' => e = .returned (.func (.func 101) #[] #[.pointer (some ⟨w.heap.size, 0, none⟩), .pointer (some ⟨w.heap.size + 1, 0, none⟩)]) ∧ w' = (w.alloc (.cells #[.slice a n c] 36)).alloc (.cells #[.int .i64 m] 3) := by
 have hmf : ∀ (fn : Fn) (first cap : Array Value) (w : World), (Instr.makeFunc fn first cap).run Tryz.prog w = .ok (.func fn first cap) w := fun _ _ _ _ => rfl
 go_enter Tryz.func76, Tryz.ntmps76
 go_wp2
 go_ret
 exact ⟨rfl, rfl⟩
set_option maxHeartbeats 2000000 in
theorem groupsI_hands (bl bm b off n c most : Nat) (hm : 1 ≤ most) (hm2 : most ≤ 1000) (hn : n ≤ 1000000) (hc : n ≤ c) :
 Hands Tryz.prog 101 #[.pointer (some ⟨bl, 0, none⟩), .pointer (some ⟨bm, 0, none⟩)] (gcuts b (gmany n most) off n c) (fun W => W.cell? ⟨bl, 0, none⟩ = some (.slice (some ⟨b, off, none⟩) n c) ∧ W.cell? ⟨bm, 0, none⟩ = some (.int .i64 (most : Int))) := by
 intro N l J X W hW hY h0
 obtain ⟨c0, c1⟩ := hW
 have HY : Hid _ := hY
 have HJ0 : Hid (J 0 W) := h0
 have hdv : ((n : Int) + (most : Int) - 1) / (most : Int) = ((gmany n most : Nat) : Int) := by
  unfold gmany
  rw [show (n : Int) + (most : Int) - 1 = ((n + most - 1 : Nat) : Int) by omega]
  rfl
 have hgm : gmany n most ≤ 1001000 := by
  have : gmany n most ≤ n + most - 1 := Nat.div_le_self _ _
  omega
 obtain ⟨K0, hK0⟩ : ∃ K0, K0 = gmany n most := ⟨_, rfl⟩
 have hKn := gmany_le (n := n) hm
 rw [← hK0] at hdv hgm HY hKn ⊢
 have HDV : Hid _ := hdv
 clear hY h0 hK0 hdv
 refine callsIn_of_wp Tryz.func101 rfl trivial ?_ rfl
 simp only [Tryz.ntmps101, List.size_toArray, List.length_cons, List.length_nil, Nat.reduceAdd, Nat.reduceSub, Array.replicate_succ, Array.replicate_zero, List.push_toArray, List.append_toArray, List.nil_append, List.cons_append]
 gi_wp2
 gi_loopw [4, 5] (fun v i wr => GRel J (gcuts b K0 off n c) b K0 n v i wr) (fun _ i _ => (intOf i).toNat)
 case atStart => exact GRel.of ⟨K0, 0, by rw [HDV.out], by omega, HJ0, fun _ => ⟨off, n, c, rfl, hc, Nat.le_refl _, hKn, rfl⟩⟩
 case round =>
  obtain ⟨c', j, rfl, hj, HJ, hv⟩ := hrel
  have HRJ : Hid (j + c' = K0) := hj
  cases c' with
  | zero =>
    gi_wp2
    go_end0
    refine .inl ⟨_, rfl, ?_⟩
    rw [gcuts_length]
    have : j = K0 := by omega
    rw [← this]
    exact HJ.out
  | succ c' =>
    obtain ⟨off', n', cap', rfl, hnc, hnn, hcn, HG⟩ := hv (by omega)
    have hk := gk_le n' c'
    have hkl := gk_left hcn
    obtain ⟨k, hkd⟩ : ∃ k, k = (n' + c') / (c' + 1) := ⟨_, rfl⟩
    have hd2 : ((n' : Int) + ((c' : Int) + 1) - 1) / ((c' : Int) + 1) = (k : Int) := by
     rw [hkd, show (n' : Int) + ((c' : Int) + 1) - 1 = ((n' + c' : Nat) : Int) by omega]
     rfl
    rw [← hkd] at hk hkl
    have HG2 : Hid (#[.slice (some ⟨b, off', none⟩) k cap'] :: gcuts b c' (off' + k * 2) (n' - k) (cap' - k) = (gcuts b K0 off n c).drop j) := by
     rw [hkd]
     exact HG.out
    have hat : (gcuts b K0 off n c)[j]? = some #[.slice (some ⟨b, off', none⟩) k cap'] := by
     have := congrArg (fun l => l[0]?) HG2.out
     simp only [List.getElem?_cons_zero, List.getElem?_drop, Nat.add_zero] at this
     exact this.symm
    obtain ⟨fn, tmps, assign, body, hy, hR⟩ := HY.out j _ wr hat HJ.out
    have HG3 : Hid (gcuts b c' (off' + k * 2) (n' - k) (cap' - k) = (gcuts b K0 off n c).drop (j + 1)) := by
     have := congrArg (fun l => l.drop 1) HG2.out
     simp only [List.drop_succ_cons, List.drop_zero, List.drop_drop] at this
     exact this
    have hc1 : ((c' + 1 : Nat) : Int) > 0 := by omega
    have hkc : (k : Int) ≤ (cap' : Int) := by omega
    clear hv hat HG HG2 hkd
    gi_wp2
    refine ⟨(fun h => by cases h), hR.mono ?_⟩
    rintro e W3 (⟨rfl, hJ3⟩ | ⟨ch, rfl, hX⟩)
    · have HJ3 : Hid (J (j + 1) W3) := hJ3
      clear hJ3 hR hy
      by_cases hkc2 : k < cap'
      · have hkz : (k : Int) < (cap' : Int) := by omega
        gi_wp2
        go_roundw
        case rel => exact GRel.of (J := J) (gl := gcuts b K0 off n c) (K0 := K0) (n := n) ⟨c', j + 1, by go_num, by have := HRJ.out; omega, HJ3, fun h => ⟨off' + k * 2, n' - k, cap' - k, by go_num, by omega, by omega, by omega, HG3⟩⟩
        case measure => simp [intOf]
      · have hkz : ¬ (k : Int) < (cap' : Int) := by omega
        gi_wp2
        all_goals
         go_roundw
         case rel => exact GRel.of (J := J) (gl := gcuts b K0 off n c) (K0 := K0) (n := n) ⟨c', j + 1, by go_num, by have := HRJ.out; omega, HJ3, fun h => by omega⟩
         case measure => simp [intOf]
    · gi_wp2
      exact ⟨rfl, .inr ⟨ch, rfl, hX⟩⟩
theorem groupsI_hands0 (bl bm c most : Nat) (a : Option Addr) (hm : 1 ≤ most) (hm2 : most ≤ 1000) :
 Hands Tryz.prog 101 #[.pointer (some ⟨bl, 0, none⟩), .pointer (some ⟨bm, 0, none⟩)] [] (fun W => W.cell? ⟨bl, 0, none⟩ = some (.slice a 0 c) ∧ W.cell? ⟨bm, 0, none⟩ = some (.int .i64 (most : Int))) := by
 intro N l J X W hW hY h0
 obtain ⟨c0, c1⟩ := hW
 have HJ0 : Hid (J 0 W) := h0
 have hdv : ((0 : Int) + (most : Int) - 1) / (most : Int) = 0 := Int.ediv_eq_zero_of_lt (by omega) (by omega)
 have HDV : Hid _ := hdv
 have hdv2 : ((most : Int) - 1) / (most : Int) = 0 := Int.ediv_eq_zero_of_lt (by omega) (by omega)
 have HDV2 : Hid _ := hdv2
 clear hY h0 hdv hdv2
 refine callsIn_of_wp Tryz.func101 rfl trivial ?_ rfl
 simp only [Tryz.ntmps101, List.size_toArray, List.length_cons, List.length_nil, Nat.reduceAdd, Nat.reduceSub, Array.replicate_succ, Array.replicate_zero, List.push_toArray, List.append_toArray, List.nil_append, List.cons_append]
 gi_wp2
 gi_loopw [5] (fun i wr => i = .int .i64 0 ∧ Hid (J 0 wr)) (fun _ _ => 0)
 case atStart => exact ⟨by first | rw [HDV2.out] | rw [HDV.out], HJ0⟩
 case round =>
  obtain ⟨rfl, HJ⟩ := hrel
  gi_wp2
  go_end0
  exact .inl ⟨_, rfl, HJ.out⟩
theorem groupsB_u (w : World) (a : Option Addr) (n c : Nat) (m : Int) :
 Calls Tryz.prog 78 #[.slice a n c, .int .i64 m] w fun e w' => e = .returned (.func (.func 105) #[] #[.pointer (some ⟨w.heap.size, 0, none⟩), .pointer (some ⟨w.heap.size + 1, 0, none⟩)]) ∧ w' = (w.alloc (.cells #[.slice a n c] 109)).alloc (.cells #[.int .i64 m] 3) := by
 have hmf : ∀ (fn : Fn) (first cap : Array Value) (w : World), (Instr.makeFunc fn first cap).run Tryz.prog w = .ok (.func fn first cap) w := fun _ _ _ _ => rfl
 go_enter Tryz.func78, Tryz.ntmps78
 go_wp2
 go_ret
 exact ⟨rfl, rfl⟩
set_option maxHeartbeats 2000000 in
theorem groupsB_hands (bl bm b off n c most : Nat) (hm : 1 ≤ most) (hm2 : most ≤ 1000) (hn : n ≤ 1000000) (hc : n ≤ c) :
 Hands Tryz.prog 105 #[.pointer (some ⟨bl, 0, none⟩), .pointer (some ⟨bm, 0, none⟩)] (gcuts b (gmany n most) off n c) (fun W => W.cell? ⟨bl, 0, none⟩ = some (.slice (some ⟨b, off, none⟩) n c) ∧ W.cell? ⟨bm, 0, none⟩ = some (.int .i64 (most : Int))) := by
 intro N l J X W hW hY h0
 obtain ⟨c0, c1⟩ := hW
 have HY : Hid _ := hY
 have HJ0 : Hid (J 0 W) := h0
 have hdv : ((n : Int) + (most : Int) - 1) / (most : Int) = ((gmany n most : Nat) : Int) := by
  unfold gmany
  rw [show (n : Int) + (most : Int) - 1 = ((n + most - 1 : Nat) : Int) by omega]
  rfl
 have hgm : gmany n most ≤ 1001000 := by
  have : gmany n most ≤ n + most - 1 := Nat.div_le_self _ _
  omega
 obtain ⟨K0, hK0⟩ : ∃ K0, K0 = gmany n most := ⟨_, rfl⟩
 have hKn := gmany_le (n := n) hm
 rw [← hK0] at hdv hgm HY hKn ⊢
 have HDV : Hid _ := hdv
 clear hY h0 hK0 hdv
 refine callsIn_of_wp Tryz.func105 rfl trivial ?_ rfl
 simp only [Tryz.ntmps105, List.size_toArray, List.length_cons, List.length_nil, Nat.reduceAdd, Nat.reduceSub, Array.replicate_succ, Array.replicate_zero, List.push_toArray, List.append_toArray, List.nil_append, List.cons_append]
 gi_wp2
 gi_loopw [4, 5] (fun v i wr => GRel J (gcuts b K0 off n c) b K0 n v i wr) (fun _ i _ => (intOf i).toNat)
 case atStart => exact GRel.of ⟨K0, 0, by rw [HDV.out], by omega, HJ0, fun _ => ⟨off, n, c, rfl, hc, Nat.le_refl _, hKn, rfl⟩⟩
 case round =>
  obtain ⟨c', j, rfl, hj, HJ, hv⟩ := hrel
  have HRJ : Hid (j + c' = K0) := hj
  cases c' with
  | zero =>
    gi_wp2
    go_end0
    refine .inl ⟨_, rfl, ?_⟩
    rw [gcuts_length]
    have : j = K0 := by omega
    rw [← this]
    exact HJ.out
  | succ c' =>
    obtain ⟨off', n', cap', rfl, hnc, hnn, hcn, HG⟩ := hv (by omega)
    have hk := gk_le n' c'
    have hkl := gk_left hcn
    obtain ⟨k, hkd⟩ : ∃ k, k = (n' + c') / (c' + 1) := ⟨_, rfl⟩
    have hd2 : ((n' : Int) + ((c' : Int) + 1) - 1) / ((c' : Int) + 1) = (k : Int) := by
     rw [hkd, show (n' : Int) + ((c' : Int) + 1) - 1 = ((n' + c' : Nat) : Int) by omega]
     rfl
    rw [← hkd] at hk hkl
    have HG2 : Hid (#[.slice (some ⟨b, off', none⟩) k cap'] :: gcuts b c' (off' + k * 2) (n' - k) (cap' - k) = (gcuts b K0 off n c).drop j) := by
     rw [hkd]
     exact HG.out
    have hat : (gcuts b K0 off n c)[j]? = some #[.slice (some ⟨b, off', none⟩) k cap'] := by
     have := congrArg (fun l => l[0]?) HG2.out
     simp only [List.getElem?_cons_zero, List.getElem?_drop, Nat.add_zero] at this
     exact this.symm
    obtain ⟨fn, tmps, assign, body, hy, hR⟩ := HY.out j _ wr hat HJ.out
    have HG3 : Hid (gcuts b c' (off' + k * 2) (n' - k) (cap' - k) = (gcuts b K0 off n c).drop (j + 1)) := by
     have := congrArg (fun l => l.drop 1) HG2.out
     simp only [List.drop_succ_cons, List.drop_zero, List.drop_drop] at this
     exact this
    have hc1 : ((c' + 1 : Nat) : Int) > 0 := by omega
    have hkc : (k : Int) ≤ (cap' : Int) := by omega
    clear hv hat HG HG2 hkd
    gi_wp2
    refine ⟨(fun h => by cases h), hR.mono ?_⟩
    rintro e W3 (⟨rfl, hJ3⟩ | ⟨ch, rfl, hX⟩)
    · have HJ3 : Hid (J (j + 1) W3) := hJ3
      clear hJ3 hR hy
      by_cases hkc2 : k < cap'
      · have hkz : (k : Int) < (cap' : Int) := by omega
        gi_wp2
        go_roundw
        case rel => exact GRel.of (J := J) (gl := gcuts b K0 off n c) (K0 := K0) (n := n) ⟨c', j + 1, by go_num, by have := HRJ.out; omega, HJ3, fun h => ⟨off' + k * 2, n' - k, cap' - k, by go_num, by omega, by omega, by omega, HG3⟩⟩
        case measure => simp [intOf]
      · have hkz : ¬ (k : Int) < (cap' : Int) := by omega
        gi_wp2
        all_goals
         go_roundw
         case rel => exact GRel.of (J := J) (gl := gcuts b K0 off n c) (K0 := K0) (n := n) ⟨c', j + 1, by go_num, by have := HRJ.out; omega, HJ3, fun h => by omega⟩
         case measure => simp [intOf]
    · gi_wp2
      exact ⟨rfl, .inr ⟨ch, rfl, hX⟩⟩
theorem groupsB_hands0 (bl bm c most : Nat) (a : Option Addr) (hm : 1 ≤ most) (hm2 : most ≤ 1000) :
 Hands Tryz.prog 105 #[.pointer (some ⟨bl, 0, none⟩), .pointer (some ⟨bm, 0, none⟩)] [] (fun W => W.cell? ⟨bl, 0, none⟩ = some (.slice a 0 c) ∧ W.cell? ⟨bm, 0, none⟩ = some (.int .i64 (most : Int))) := by
 intro N l J X W hW hY h0
 obtain ⟨c0, c1⟩ := hW
 have HJ0 : Hid (J 0 W) := h0
 have hdv : ((0 : Int) + (most : Int) - 1) / (most : Int) = 0 := Int.ediv_eq_zero_of_lt (by omega) (by omega)
 have HDV : Hid _ := hdv
 have hdv2 : ((most : Int) - 1) / (most : Int) = 0 := Int.ediv_eq_zero_of_lt (by omega) (by omega)
 have HDV2 : Hid _ := hdv2
 clear hY h0 hdv hdv2
 refine callsIn_of_wp Tryz.func105 rfl trivial ?_ rfl
 simp only [Tryz.ntmps105, List.size_toArray, List.length_cons, List.length_nil, Nat.reduceAdd, Nat.reduceSub, Array.replicate_succ, Array.replicate_zero, List.push_toArray, List.append_toArray, List.nil_append, List.cons_append]
 gi_wp2
 gi_loopw [5] (fun i wr => i = .int .i64 0 ∧ Hid (J 0 wr)) (fun _ _ => 0)
 case atStart => exact ⟨by first | rw [HDV2.out] | rw [HDV.out], HJ0⟩
 case round =>
  obtain ⟨rfl, HJ⟩ := hrel
  gi_wp2
  go_end0
  exact .inl ⟨_, rfl, HJ.out⟩
end Go.Proofs.YtkbmadoaomoojaaGreat
