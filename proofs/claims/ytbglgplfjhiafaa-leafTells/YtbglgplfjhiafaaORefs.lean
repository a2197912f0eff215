/-
  The contracts of the document's own Put and Get. Conditions: those that each names.
-/
import Derived.Test.YtbglgplfjhiafaaONum
import Derived.Test.YtbglgplfjhiafaaONums
namespace Go.Proofs.Ytbglgplfjhiafaa
open Go.RowKit
set_option linter.unusedVariables false

set_option maxHeartbeats 400000 in
theorem refGet_arg (w : World) (a : Option Addr) (n c : Nat) (P S : Int) (h : ¬ (1 ≤ S ∧ S ≤ 8)) :
    Calls Try.prog 46 #[.slice a n c, .int .i64 P, .int .i64 S] w fun e w' => e = .returned (.tuple #[.int .u64 0, .int .i64 1]) ∧ w = w' := by
  by_cases h1 : S < 1
  · go_enter Try.func46, Try.ntmps46
    go_wp2
    go_ret2
    exact ⟨rfl, rfl⟩
  · have h2 : 8 < S := by omega
    go_enter Try.func46, Try.ntmps46
    go_wp2
    go_ret2
    exact ⟨rfl, rfl⟩

set_option maxHeartbeats 400000 in
theorem refGet_neg (w : World) (a : Option Addr) (n c : Nat) (P S : Int) (h1 : 1 ≤ S) (h2 : S ≤ 8) (hp : P < 0) :
    Calls Try.prog 46 #[.slice a n c, .int .i64 P, .int .i64 S] w fun e w' => e = .returned (.tuple #[.int .u64 0, .int .i64 4]) ∧ w = w' := by
  go_enter Try.func46, Try.ntmps46
  go_wp2
  go_ret2
  exact ⟨rfl, rfl⟩

set_option maxHeartbeats 400000 in
theorem refGet_short (w : World) (a : Option Addr) (n c : Nat) (p s : Nat) (P S : Int) (hP : P = (p : Int)) (hS : S = (s : Int)) (h1 : 1 ≤ s) (h2 : s ≤ 8) (hn : n ≤ maxLen) (h : n < p + s) :
    Calls Try.prog 46 #[.slice a n c, .int .i64 P, .int .i64 S] w fun e w' => e = .returned (.tuple #[.int .u64 0, .int .i64 8]) ∧ w = w' := by
  subst hP
  subst hS
  unfold maxLen at hn
  by_cases hx : n < p
  · go_enter Try.func46, Try.ntmps46
    go_wp2
    go_ret2
    exact ⟨rfl, rfl⟩
  · go_enter Try.func46, Try.ntmps46
    go_wp2
    go_ret2
    exact ⟨rfl, rfl⟩

theorem add_step (l : List UInt8) (p s k : Nat) (hk : k ≤ s) (h1 : 1 ≤ k) (hs : s ≤ 8) (h : p + s ≤ l.length) :
    256 * (Oct.num (Oct.cut l (p + k) (s - k)) : Nat) + ((l[p + (k - 1)]'(by omega)).toNat : Int) = ((Oct.num (Oct.cut l (p + (k - 1)) (s - (k - 1))) : Nat) : Int) ∧ Oct.num (Oct.cut l (p + k) (s - k)) < 72057594037927936 ∧ (l[p + (k - 1)]'(by omega)).toNat < 256 := by
  have hb : (l[p + (k - 1)]'(by omega)).toNat < 256 := by have := (l[p + (k - 1)]'(by omega)).toNat_lt; simpa using this
  have hN := Oct.num_cut_lt l (p + k) (s - k) (by omega)
  have hp : 256 ^ (s - k) ≤ 256 ^ 7 := Nat.pow_le_pow_right (by decide) (by omega)
  have e := Oct.num_cut_step l (p + (k - 1)) (s - k) (by omega)
  refine ⟨?_, by omega, hb⟩
  rw [show s - (k - 1) = s - k + 1 from by omega, e, show p + (k - 1) + 1 = p + k from by omega]
  omega

set_option maxHeartbeats 400000 in
theorem refGet_ok (w : World) (a : Option Addr) (n c : Nat) (l : List UInt8) (p s : Nat) (P S : Int) (hP : P = (p : Int)) (hS : S = (s : Int)) (h1 : 1 ≤ s) (h2 : s ≤ 8) (hn : n ≤ maxLen) (hB : IsB w a n l) (h : p + s ≤ n) :
    Calls Try.prog 46 #[.slice a n c, .int .i64 P, .int .i64 S] w fun e w' => e = .returned (.tuple #[.int .u64 (Oct.num (Oct.cut l p s) : Nat), .int .i64 0]) ∧ w = w' := by
  subst hP
  subst hS
  unfold maxLen at hn
  obtain ⟨b, off, rfl, hcell⟩ := hB.place (by omega)
  have hlen : l.length = n := hB.1
  clear hB
  go_enter Try.func46, Try.ntmps46
  go_wp2
  go_loop [8, 9] (fun v i => ∃ k : Nat, k ≤ s ∧ i = .int .i64 ((k : Int) - 1) ∧ v = .int .u64 (Oct.num (Oct.cut l (p + k) (s - k)) : Nat))
    (fun _ i => (intOf i + 1).toNat)
  case atStart => exact ⟨s, Nat.le_refl _, rfl, by simp [Oct.cut, Oct.num]⟩
  case round =>
    obtain ⟨k, hk, rfl, rfl⟩ := hrel
    by_cases hlt : 1 ≤ k
    · have hc := hcell (p + (k - 1)) (by omega)
      obtain ⟨hr1, hr2, hr3⟩ := add_step l p s k hk hlt h2 (by omega)
      have HR : Hid _ := hr1
      clear hcell hr1
      generalize hx : (l[p + (k - 1)]'(by omega)).toNat = x at *
      generalize hy : Oct.num (Oct.cut l (p + k) (s - k)) = y at *
      clear hx hy
      go_wp2
      go_round
      case rel => exact ⟨k - 1, by omega, by go_num, by rw [← HR.out]⟩
      case measure => simp [intOf]; omega
    · have e : k = 0 := by omega
      subst e
      clear hcell
      go_wp2
      go_ret2
      exact ⟨rfl, rfl⟩

theorem refGet_u (w : World) (a : Option Addr) (n c : Nat) (l : List UInt8) (P S : Int) (hn : n ≤ maxLen) (hB : IsB w a n l) :
    Calls Try.prog 46 #[.slice a n c, .int .i64 P, .int .i64 S] w fun e w' =>
      e = .returned (.tuple #[.int .u64 (Oct.getV l P S : Nat), .int .i64 (Oct.getE l P S)]) ∧ w = w' := by
  have hl := hB.1
  rcases Oct.getE_cases l P S with ⟨h, e1, e2⟩ | ⟨h, hp, e1, e2⟩ | ⟨p, s, rfl, rfl, h1, h2, h, e1, e2⟩ | ⟨p, s, rfl, rfl, h1, h2, h, e1, e2⟩
  · rw [e1, e2]; exact refGet_arg w a n c P S h
  · rw [e1, e2]; exact refGet_neg w a n c P S h.1 h.2 hp
  · rw [e1, e2]; exact refGet_short w a n c p s _ _ rfl rfl h1 h2 hn (by omega)
  · rw [e1, e2]; exact refGet_ok w a n c l p s _ _ rfl rfl h1 h2 hn hB (by omega)

set_option maxHeartbeats 400000 in
theorem refPut_arg (N S : Int) (w : World) (h : ¬ (1 ≤ S ∧ S ≤ 8)) :
    Calls Try.prog 29 #[.int .u64 N, .int .i64 S] w fun e w' => e = .returned (.tuple #[.slice none 0 0, .int .i64 1]) ∧ w = w' := by
  by_cases h1 : S < 1
  · go_enter Try.func29, Try.ntmps29
    go_wp2
    go_ret2
    exact ⟨rfl, rfl⟩
  · have h2 : 8 < S := by omega
    go_enter Try.func29, Try.ntmps29
    go_wp2
    go_ret2
    exact ⟨rfl, rfl⟩

set_option maxHeartbeats 400000 in
theorem refPut_in (n : Nat) (s : Nat) (w : World) (h1 : 1 ≤ s) (h2 : s ≤ 8) (hn : n < 18446744073709551616) :
    Calls Try.prog 29 #[.int .u64 n, .int .i64 s] w fun e w' => ∃ a len c, e = .returned (.tuple #[.slice a len c, .int .i64 (Oct.putE n s)]) ∧
      w'.ownsRow w.heap.size 5 1 (.slice a len c) len (cellsOf (Oct.putL n s)) ∧ Below w.heap.size w w' := by
  obtain ⟨i0, hi, hz0, hz1, hz2⟩ := info_parts info_u8
  have H1 : n < 256 ^ s → Oct.putE n s = 0 ∧ Oct.putL n s = Oct.octs n s := fun h => ⟨Oct.putE_ok h1 h2 h, Oct.putL_ok h1 h2 h⟩
  have H2 : ¬ n < 256 ^ s → Oct.putE n s = 4 ∧ Oct.putL n s = [] := fun h => ⟨Oct.putE_range h1 h2 (by omega), by simp [Oct.putL, Oct.putE_range h1 h2 (show 256 ^ s ≤ n by omega)]⟩
  have K1 : Hid _ := H1
  have K2 : Hid _ := H2
  clear H1 H2
  go_enter Try.func29, Try.ntmps29
  go_wp2
  go_loopw [0, 6, 7] (fun m out i wr => ∃ (k : Nat) (q : Nat), k ≤ s ∧ i = .int .i64 k ∧ m = .int .u64 q ∧ q = n / 256 ^ k ∧ wr.ownsRow w.heap.size 5 1 out k (cellsOf (Oct.octs n k)) ∧ Below w.heap.size w wr)
    (fun _ _ i _ => s - (intOf i).toNat)
  case atStart => exact ⟨0, n, Nat.zero_le _, rfl, rfl, by simp, own_nil _ _, Below.refl _ _⟩
  case round =>
    obtain ⟨k, q, hk, rfl, rfl, hq, hown, hbel⟩ := hrel
    have hql : q ≤ n := by rw [hq]; exact Nat.div_le_self _ _
    have HQ : Hid _ := hq
    clear hq
    have hz := hbel.size
    by_cases hlt : k < s
    · go_wp2_with (at_builtin; refine wpList_append_own _ rfl _ _ 26 rfl w.heap.size 5 i0 (.int .u8 0) 1 1 Try.underlying26 hi hz0 hz1 hz2 rfl (by decide) _ k _ rfl (hown.alloc _) ⟨wr.heap.size, 0, none⟩ 1 1 [.int .u8 ((q : Int) % 256)] rfl rfl (cell_one_new _ _ _) (by intro u hu; simp at hu; subst hu; rfl) (by unfold maxLen; omega) (by omega) (by simp; omega) ?_)
      intro v' w1 hown' hgrow _
      have hst : w1.ownsRow w.heap.size 5 1 v' (k + 1) (cellsOf (Oct.octs n (k + 1))) := by
        rw [Oct.octs_snoc, cellsOf_append, ← HQ.out]
        have e : cellsOf [UInt8.ofNat q] = [.int .u8 ((q : Int) % 256)] := by simp [cellsOf]
        rw [e]
        exact hown'
      have hb1 : Below w.heap.size w w1 := (hbel.alloc hz _).grown hgrow (by simp; omega) (own_base hown)
      have hq2 : (q : Int) / 256 = ((q / 256 : Nat) : Int) := by simp
      have HQ2 : Hid _ := hq2
      clear hown' hgrow hown hbel hq2
      go_wp2
      go_roundw
      case rel => exact ⟨k + 1, q / 256, by omega, by go_num, by go_num, by rw [HQ.out]; exact Oct.div_step n k, hst, hb1⟩
      case measure => simp [intOf]; omega
    · have e : k = s := by omega
      subst e
      obtain ⟨b, d, rfl, -⟩ := owns_slice hown
      by_cases hq0 : 0 < q
      · go_wp2
        go_ret2
        have hx : ¬ n < 256 ^ k := by
          intro hx
          have := HQ.out
          rw [Nat.div_eq_of_lt hx] at this
          omega
        have hy := K2.out hx
        exact ⟨none, 0, 0, by rw [hy.1]; rfl, by rw [hy.2]; exact own_nil _ _, hbel⟩
      · go_wp2
        go_ret2
        have hx : n < 256 ^ k := by
          have h0 : n / 256 ^ k = 0 := by have := HQ.out; omega
          rcases Nat.div_eq_zero_iff.1 h0 with h | h
          · exact absurd h (Nat.pos_iff_ne_zero.1 (Nat.pow_pos (by decide)))
          · exact h
        have hy := K1.out hx
        exact ⟨b, k, d, by rw [hy.1]; rfl, by rw [hy.2]; exact hown, hbel⟩

theorem refPut_u (n : Nat) (S : Int) (w : World) (hn : n < 18446744073709551616) :
    Calls Try.prog 29 #[.int .u64 n, .int .i64 S] w fun e w' => ∃ a len c, e = .returned (.tuple #[.slice a len c, .int .i64 (Oct.putE n S)]) ∧
      w'.ownsRow w.heap.size 5 1 (.slice a len c) len (cellsOf (Oct.putL n S)) ∧ Below w.heap.size w w' := by
  by_cases h : 1 ≤ S ∧ S ≤ 8
  · obtain ⟨s, rfl⟩ := Int.eq_ofNat_of_zero_le (show 0 ≤ S by omega)
    exact refPut_in n s w (by omega) (by omega) hn
  · rw [Oct.putE_arg h, show Oct.putL n S = [] from by simp [Oct.putL, Oct.putE_arg h]]
    refine (refPut_arg n S w h).mono ?_
    rintro e w' ⟨rfl, rfl⟩
    exact ⟨none, 0, 0, rfl, own_nil _ _, Below.refl _ _⟩

end Go.Proofs.Ytbglgplfjhiafaa
