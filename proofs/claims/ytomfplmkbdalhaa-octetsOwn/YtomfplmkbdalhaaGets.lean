/-
  The contracts of Get and of the document's own answer for it. Conditions: those that each contract names.
-/
import Derived.Test.YtomfplmkbdalhaaCalls
namespace Go.Proofs.Ytomfplmkbdalhaa
open Go.RowKit
set_option linter.unusedVariables false

set_option maxHeartbeats 400000 in
theorem get_arg (w : World) (a : Option Addr) (n c : Nat) (P S : Int) (h : ¬ (1 ≤ S ∧ S ≤ 8)) :
    Calls Try.prog 12 #[.slice a n c, .int .i64 P, .int .i64 S] w fun e w' => e = .returned (.tuple #[.int .u64 0, .int .i64 1]) ∧ w = w' := by
  have hd : decide (1 ≤ S ∧ S ≤ 8) = false := by simpa using h
  go_enter Try.func12, Try.ntmps12
  go_wp2_with (go_at_call 27; refine (isSize_any _ _).mono ?_; rintro e w' ⟨rfl, rfl⟩)
  go_ret2
  exact ⟨rfl, rfl⟩

set_option maxHeartbeats 400000 in
theorem get_neg (w : World) (a : Option Addr) (n c : Nat) (P S : Int) (h : 1 ≤ S ∧ S ≤ 8) (hp : P < 0) :
    Calls Try.prog 12 #[.slice a n c, .int .i64 P, .int .i64 S] w fun e w' => e = .returned (.tuple #[.int .u64 0, .int .i64 4]) ∧ w = w' := by
  have hd : decide (1 ≤ S ∧ S ≤ 8) = true := by simpa using h
  go_enter Try.func12, Try.ntmps12
  go_wp2_with (go_at_call 27; refine (isSize_any _ _).mono ?_; rintro e w' ⟨rfl, rfl⟩)
  go_ret2
  exact ⟨rfl, rfl⟩

set_option maxHeartbeats 400000 in
theorem get_short (w : World) (a : Option Addr) (n c : Nat) (p s : Nat) (P S : Int) (hP : P = (p : Int)) (hS : S = (s : Int)) (h1 : 1 ≤ s) (h2 : s ≤ 8) (hn : n ≤ maxLen) (hp : p ≤ maxLen) (h : n < p + s) :
    Calls Try.prog 12 #[.slice a n c, .int .i64 P, .int .i64 S] w fun e w' => e = .returned (.tuple #[.int .u64 0, .int .i64 8]) ∧ Below w.heap.size w w' := by
  subst hP
  subst hS
  have hd : decide (1 ≤ (s : Int) ∧ (s : Int) ≤ 8) = true := by simp; omega
  have hn' := hn
  have hp' := hp
  unfold maxLen at hn' hp'
  go_enter Try.func12, Try.ntmps12
  go_wp2_with (first
    | (go_at_call 27; refine (isSize_any _ _).mono ?_; rintro e w' ⟨rfl, rfl⟩)
    | (go_at_call 29; refine (next_no _ a n c p s _ rfl _ _ h1 h2 hn hp (by simp) (by simp) h).mono ?_; rintro e w1 ⟨rfl, rfl⟩)
    | go_in)
  go_ret2
  exact ⟨rfl, ((Below.refl _ _).alloc (Nat.le_refl _) _).alloc (by simp) _⟩

set_option maxHeartbeats 400000 in
theorem get_ok (w : World) (a : Option Addr) (n c : Nat) (l : List UInt8) (p s : Nat) (P S : Int) (hP : P = (p : Int)) (hS : S = (s : Int)) (h1 : 1 ≤ s) (h2 : s ≤ 8) (hn : n ≤ maxLen) (hB : IsB w a n l) (h : p + s ≤ n) :
    Calls Try.prog 12 #[.slice a n c, .int .i64 P, .int .i64 S] w fun e w' => e = .returned (.tuple #[.int .u64 (Oct.num (Oct.cut l p s) : Nat), .int .i64 0]) ∧ Below w.heap.size w w' := by
  subst hP
  subst hS
  have hd : decide (1 ≤ (s : Int) ∧ (s : Int) ≤ 8) = true := by simp; omega
  have hn' := hn
  unfold maxLen at hn'
  go_enter Try.func12, Try.ntmps12
  go_wp2_with (first
    | (go_at_call 27; refine (isSize_any _ _).mono ?_; rintro e w' ⟨rfl, rfl⟩)
    | (go_at_call 29; refine (next_ok _ a n c l p s _ rfl _ _ h1 h2 hn (hB.below (((Below.refl _ _).alloc (Nat.le_refl _) _).alloc (by simp) _)) (by simp) (by simp) (by simp) h).mono ?_; rintro e w1 ⟨rfl, hw1⟩; have hb1 := two_new _ _ _ _ _ hw1; clear hw1)
    | go_in)
  go_ret2
  exact ⟨rfl, hb1⟩

theorem get_u (w : World) (a : Option Addr) (n c : Nat) (l : List UInt8) (P S : Int) (hP : P ≤ 9223372036854775807) (hn : n ≤ maxLen) (hB : IsB w a n l) :
    Calls Try.prog 12 #[.slice a n c, .int .i64 P, .int .i64 S] w fun e w' =>
      e = .returned (.tuple #[.int .u64 (Oct.getV l P S : Nat), .int .i64 (Oct.getE l P S)]) ∧ Below w.heap.size w w' := by
  have hl := hB.1
  rcases Oct.getE_cases l P S with ⟨h, e1, e2⟩ | ⟨h, hp, e1, e2⟩ | ⟨p, s, rfl, rfl, h1, h2, h, e1, e2⟩ | ⟨p, s, rfl, rfl, h1, h2, h, e1, e2⟩
  · rw [e1, e2]
    refine (get_arg w a n c P S h).mono ?_
    rintro e w' ⟨rfl, rfl⟩
    exact ⟨rfl, Below.refl _ _⟩
  · rw [e1, e2]
    refine (get_neg w a n c P S h hp).mono ?_
    rintro e w' ⟨rfl, rfl⟩
    exact ⟨rfl, Below.refl _ _⟩
  · rw [e1, e2]
    refine (get_short w a n c p s _ _ rfl rfl h1 h2 hn (by unfold maxLen; omega) (by omega)).mono ?_
    rintro e w' ⟨rfl, hb⟩
    exact ⟨rfl, hb⟩
  · rw [e1, e2]
    refine (get_ok w a n c l p s _ _ rfl rfl h1 h2 hn hB (by omega)).mono ?_
    rintro e w' ⟨rfl, hb⟩
    exact ⟨rfl, hb⟩

set_option maxHeartbeats 400000 in
theorem refGet_arg (w : World) (a : Option Addr) (n c : Nat) (P S : Int) (h : ¬ (1 ≤ S ∧ S ≤ 8)) :
    Calls Try.prog 13 #[.slice a n c, .int .i64 P, .int .i64 S] w fun e w' => e = .returned (.tuple #[.int .u64 0, .int .i64 1]) ∧ w = w' := by
  by_cases h1 : S < 1
  · go_enter Try.func13, Try.ntmps13
    go_wp2
    go_ret2
    exact ⟨rfl, rfl⟩
  · have h2 : 8 < S := by omega
    go_enter Try.func13, Try.ntmps13
    go_wp2
    go_ret2
    exact ⟨rfl, rfl⟩

set_option maxHeartbeats 400000 in
theorem refGet_neg (w : World) (a : Option Addr) (n c : Nat) (P S : Int) (h1 : 1 ≤ S) (h2 : S ≤ 8) (hp : P < 0) :
    Calls Try.prog 13 #[.slice a n c, .int .i64 P, .int .i64 S] w fun e w' => e = .returned (.tuple #[.int .u64 0, .int .i64 4]) ∧ w = w' := by
  go_enter Try.func13, Try.ntmps13
  go_wp2
  go_ret2
  exact ⟨rfl, rfl⟩

set_option maxHeartbeats 400000 in
theorem refGet_short (w : World) (a : Option Addr) (n c : Nat) (p s : Nat) (P S : Int) (hP : P = (p : Int)) (hS : S = (s : Int)) (h1 : 1 ≤ s) (h2 : s ≤ 8) (hn : n ≤ maxLen) (h : n < p + s) :
    Calls Try.prog 13 #[.slice a n c, .int .i64 P, .int .i64 S] w fun e w' => e = .returned (.tuple #[.int .u64 0, .int .i64 8]) ∧ w = w' := by
  subst hP
  subst hS
  unfold maxLen at hn
  by_cases hx : n < p
  · go_enter Try.func13, Try.ntmps13
    go_wp2
    go_ret2
    exact ⟨rfl, rfl⟩
  · go_enter Try.func13, Try.ntmps13
    go_wp2
    go_ret2
    exact ⟨rfl, rfl⟩

theorem add_step (l : List UInt8) (p s k : Nat) (hk : k ≤ s) (h1 : 1 ≤ k) (hs : s ≤ 8) (h : p + s ≤ l.length) :
    256 * (Oct.num (Oct.cut l (p + k) (s - k)) : Nat) + ((l[p + (k - 1)]'(by omega)).toNat : Int) = ((Oct.num (Oct.cut l (p + (k - 1)) (s - (k - 1))) : Nat) : Int) ∧ Oct.num (Oct.cut l (p + k) (s - k)) < 72057594037927936 ∧ (l[p + (k - 1)]'(by omega)).toNat < 256 := by
  have hb : (l[p + (k - 1)]'(by omega)).toNat < 256 := by have := (l[p + (k - 1)]'(by omega)).toNat_lt; simpa using this
  have hN := Oct.num_cut_lt l (p + k) (s - k) (by omega)
  have hp : 256 ^ (s - k) ≤ 256 ^ 7 := Nat.pow_le_pow_right (by decide) (by omega)
  have e := Oct.num_cut_step l (p + (k - 1)) (s - k) (by omega)
  refine ⟨?_, by omega, hb⟩
  rw [show s - (k - 1) = s - k + 1 from by omega, e, show p + (k - 1) + 1 = p + k from by omega]
  omega

set_option maxHeartbeats 400000 in
theorem refGet_ok (w : World) (a : Option Addr) (n c : Nat) (l : List UInt8) (p s : Nat) (P S : Int) (hP : P = (p : Int)) (hS : S = (s : Int)) (h1 : 1 ≤ s) (h2 : s ≤ 8) (hn : n ≤ maxLen) (hB : IsB w a n l) (h : p + s ≤ n) :
    Calls Try.prog 13 #[.slice a n c, .int .i64 P, .int .i64 S] w fun e w' => e = .returned (.tuple #[.int .u64 (Oct.num (Oct.cut l p s) : Nat), .int .i64 0]) ∧ w = w' := by
  subst hP
  subst hS
  unfold maxLen at hn
  obtain ⟨b, off, rfl, hcell⟩ := hB.place (by omega)
  have hlen : l.length = n := hB.1
  clear hB
  go_enter Try.func13, Try.ntmps13
  go_wp2
  go_loop [8, 9] (fun v i => ∃ k : Nat, k ≤ s ∧ i = .int .i64 ((k : Int) - 1) ∧ v = .int .u64 (Oct.num (Oct.cut l (p + k) (s - k)) : Nat))
    (fun _ i => (intOf i + 1).toNat)
  case atStart => exact ⟨s, Nat.le_refl _, rfl, by simp [Oct.cut, Oct.num]⟩
  case round =>
    obtain ⟨k, hk, rfl, rfl⟩ := hrel
    by_cases hlt : 1 ≤ k
    · have hc := hcell (p + (k - 1)) (by omega)
      obtain ⟨hr1, hr2, hr3⟩ := add_step l p s k hk hlt h2 (by omega)
      have HR : Hid _ := hr1
      clear hcell hr1
      generalize hx : (l[p + (k - 1)]'(by omega)).toNat = x at *
      generalize hy : Oct.num (Oct.cut l (p + k) (s - k)) = y at *
      clear hx hy
      go_wp2
      go_round
      case rel => exact ⟨k - 1, by omega, by go_num, by rw [← HR.out]⟩
      case measure => simp [intOf]; omega
    · have e : k = 0 := by omega
      subst e
      clear hcell
      go_wp2
      go_ret2
      exact ⟨rfl, rfl⟩

theorem refGet_u (w : World) (a : Option Addr) (n c : Nat) (l : List UInt8) (P S : Int) (hn : n ≤ maxLen) (hB : IsB w a n l) :
    Calls Try.prog 13 #[.slice a n c, .int .i64 P, .int .i64 S] w fun e w' =>
      e = .returned (.tuple #[.int .u64 (Oct.getV l P S : Nat), .int .i64 (Oct.getE l P S)]) ∧ w = w' := by
  have hl := hB.1
  rcases Oct.getE_cases l P S with ⟨h, e1, e2⟩ | ⟨h, hp, e1, e2⟩ | ⟨p, s, rfl, rfl, h1, h2, h, e1, e2⟩ | ⟨p, s, rfl, rfl, h1, h2, h, e1, e2⟩
  · rw [e1, e2]; exact refGet_arg w a n c P S h
  · rw [e1, e2]; exact refGet_neg w a n c P S h.1 h.2 hp
  · rw [e1, e2]; exact refGet_short w a n c p s _ _ rfl rfl h1 h2 hn (by omega)
  · rw [e1, e2]; exact refGet_ok w a n c l p s _ _ rfl rfl h1 h2 hn hB (by omega)

end Go.Proofs.Ytomfplmkbdalhaa
