/-
  The contracts of Put and Get of package octets. Conditions: those that each contract names.
-/
import Derived.Test.YtbglgplfjhiafaaBytes
import Derived.Test.YtbglgplfjhiafaaSpec
namespace Go.Proofs.Ytbglgplfjhiafaa
open Go.RowKit
set_option linter.unusedVariables false

theorem isSize_any (n : Int) (w : World) :
    Calls Try.prog 40 #[.int .i64 n] w fun e w' => e = .returned (.bool (decide (1 ≤ n ∧ n ≤ 8))) ∧ w = w' := by
  by_cases h1 : 1 ≤ n
  · by_cases h2 : n ≤ 8
    · go_enter Try.func40, Try.ntmps40
      go_wp2
      go_ret
      exact ⟨by simp [h1, h2], rfl⟩
    · go_enter Try.func40, Try.ntmps40
      go_wp2
      go_ret
      exact ⟨by simp [h2], rfl⟩
  · go_enter Try.func40, Try.ntmps40
    go_wp2
    go_ret
    exact ⟨by simp; omega, rfl⟩

set_option maxHeartbeats 400000 in
theorem put_arg (n s : Int) (w : World) (h : ¬ (1 ≤ s ∧ s ≤ 8)) :
    Calls Try.prog 25 #[.int .u64 n, .int .i64 s] w fun e w' => e = .returned (.tuple #[.slice none 0 0, .int .i64 1]) ∧ w = w' := by
  have hd : decide (1 ≤ s ∧ s ≤ 8) = false := by simpa using h
  go_enter Try.func25, Try.ntmps25
  go_wp2_with (go_at_call 40; refine (isSize_any _ _).mono ?_; rintro e w' ⟨rfl, rfl⟩)
  go_ret2
  exact ⟨rfl, rfl⟩

theorem byte_at (n s k : Nat) (hk : k < s) : Value.int .u8 ((n : Int) / 2 ^ (8 * k) % 256) = (cellsOf (Oct.octs n s))[k]'(by simp [cellsOf, Oct.octs_length, hk]) := by
  simp only [cellsOf, List.getElem_map]
  rw [Oct.octs_get_toNat, show (256 : Nat) = 2 ^ 8 from rfl, ← Nat.pow_mul]
  simp

theorem put_step {w wr : World} {n s k : Nat} (hk : k < s)
    (hown : wr.ownsRow w.heap.size 5 1 (.slice (some ⟨w.heap.size, 0, none⟩) s s) s ((cellsOf (Oct.octs n s)).take k ++ List.replicate (s - k) (.int .u8 0))) :
    (wr.setCell ⟨w.heap.size, k, none⟩ (.int .u8 ((n : Int) / 2 ^ (8 * k) % 256))).ownsRow w.heap.size 5 1 (.slice (some ⟨w.heap.size, 0, none⟩) s s) s ((cellsOf (Oct.octs n s)).take (k + 1) ++ List.replicate (s - (k + 1)) (.int .u8 0)) := by
  have h := (hown.stored k (.int .u8 ((n : Int) / 2 ^ (8 * k) % 256))).1
  rw [byte_at n s k hk] at h ⊢
  rw [Oct.set_step _ _ s k (by simp [cellsOf, Oct.octs_length]) hk] at h
  exact h

theorem shr_zero (n s : Nat) (h : n < 256 ^ s) : ((n : Int) / 2 ^ (8 * s) != 0) = false := by
  have : n / 2 ^ (8 * s) = 0 := by rw [Nat.pow_mul]; exact Nat.div_eq_of_lt h
  have e : (n : Int) / 2 ^ (8 * s) = ((n / 2 ^ (8 * s) : Nat) : Int) := by simp
  rw [e, this]; rfl

theorem shr_pos (n s : Nat) (h : 256 ^ s ≤ n) : ((n : Int) / 2 ^ (8 * s) != 0) = true := by
  have h0 : 0 < n / 2 ^ (8 * s) := by rw [Nat.pow_mul]; exact Nat.div_pos h (Nat.pow_pos (by decide))
  have e : (n : Int) / 2 ^ (8 * s) = ((n / 2 ^ (8 * s) : Nat) : Int) := by simp
  rw [e, bne_iff_ne]; omega

set_option maxHeartbeats 400000 in
theorem put_range (n : Nat) (s : Nat) (N S : Int) (hN : N = (n : Int)) (hS : S = (s : Int)) (w : World) (h1 : 1 ≤ s) (h2 : s ≤ 8) (h : 256 ^ s ≤ n) :
    Calls Try.prog 25 #[.int .u64 N, .int .i64 S] w fun e w' => e = .returned (.tuple #[.slice none 0 0, .int .i64 4]) ∧ w = w' := by
  subst hN
  subst hS
  have hd : decide (1 ≤ (s : Int) ∧ (s : Int) ≤ 8) = true := by simp; omega
  have hs := shr_pos n s h
  clear h
  go_enter Try.func25, Try.ntmps25
  go_wp2_with (go_at_call 40; refine (isSize_any _ _).mono ?_; rintro e w' ⟨rfl, rfl⟩)
  go_ret2
  exact ⟨rfl, rfl⟩

set_option maxHeartbeats 400000 in
theorem put_ok (n : Nat) (s : Nat) (N S : Int) (hN : N = (n : Int)) (hS : S = (s : Int)) (w : World) (h1 : 1 ≤ s) (h2 : s ≤ 8) (h : n < 256 ^ s) :
    Calls Try.prog 25 #[.int .u64 N, .int .i64 S] w fun e w' => e = .returned (.tuple #[.slice (some ⟨w.heap.size, 0, none⟩) s s, .int .i64 0]) ∧
      w'.ownsRow w.heap.size 5 1 (.slice (some ⟨w.heap.size, 0, none⟩) s s) s (cellsOf (Oct.octs n s)) ∧ Below w.heap.size w w' := by
  subst hN
  subst hS
  have hd : decide (1 ≤ (s : Int) ∧ (s : Int) ≤ 8) = true := by simp; omega
  have hs := shr_zero n s h
  have H : Hid (n < 256 ^ s) := h
  clear h
  obtain ⟨i0, hi, hz0, hz1, hz2⟩ := info_parts info_u8
  go_enter Try.func25, Try.ntmps25
  go_wp2_with (first | (go_at_call 40; refine (isSize_any _ _).mono ?_; rintro e w' ⟨rfl, rfl⟩) | (at_make; refine wpList_make_full _ rfl _ _ 26 rfl w.heap.size 5 i0 (.int .u8 0) 1 Try.underlying26 hi hz0 hz1 _ _ _ _ s rfl rfl rfl rfl ?b2 ?b3 (Nat.le_refl _) ?_))
  case b2 => rw [hz2]; omega
  case b3 => unfold maxLen; omega
  intro w0 hown0 hgrow0
  go_wp2
  go_loopw [7, 21] (fun j i wr => ∃ k : Nat, k ≤ s ∧ i = .int .i64 k ∧
      wr.ownsRow w.heap.size 5 1 (.slice (some ⟨w.heap.size, 0, none⟩) s s) s ((cellsOf (Oct.octs n s)).take k ++ List.replicate (s - k) (.int .u8 0)) ∧ Below w.heap.size w wr)
    (fun _ i _ => s - (intOf i).toNat)
  case atStart =>
    refine ⟨0, Nat.zero_le _, rfl, ?_, (Below.refl _ _).grown hgrow0 (Nat.le_refl _) (fun k h => by cases h)⟩
    simpa [Value.cells, toList_madeCells_one] using hown0
  case round =>
    obtain ⟨k, hk, rfl, hown, hbel⟩ := hrel
    by_cases hlt : k < s
    · have hst := put_step hlt hown
      have hc := hown.cellAt k (by omega)
      have hz : ∃ v, wr.cell? ⟨w.heap.size, k, none⟩ = some v := by
        rw [hc]; exact ⟨_, List.getElem?_eq_getElem (by simp [cellsOf, Oct.octs_length]; omega)⟩
      obtain ⟨v, hv⟩ := hz
      have hf := hown.frozenAt k
      clear hc hown hgrow0 hown0
      go_wp2
      go_roundw
      case rel => exact ⟨k + 1, by omega, by go_num, hst, hbel.setCell (Nat.le_refl _) _⟩
      case measure => simp [intOf]; omega
    · have e : k = s := by omega
      subst e
      go_wp2
      go_ret2
      refine ⟨rfl, ?_, hbel⟩
      rw [List.take_of_length_le (by simp [cellsOf, Oct.octs_length])] at hown
      simpa using hown

theorem or_step (N b : Nat) (hN : N < 72057594037927936) (hb : b < 256) :
    bits BinOp.or IntKind.u64 (IntKind.u64.wrap ((N : Int) * 256)) (IntKind.u64.wrap (b : Int)) = ((256 * N + b : Nat) : Int) := by
  have e1 : IntKind.u64.wrap ((N : Int) * 256) = ((N * 256 : Nat) : Int) := by simp [IntKind.wrap, IntKind.bits, IntKind.signed]; omega
  have e2 : IntKind.u64.wrap (b : Int) = (b : Int) := by simp [IntKind.wrap, IntKind.bits, IntKind.signed]; omega
  have e3 := Oct.or_add N b hb
  rw [e1, e2, u64_or_nat _ _ (by omega) (by omega), e3]

theorem round_num (l : List UInt8) (p s k : Nat) (hk : k ≤ s) (h1 : 1 ≤ k) (hs : s ≤ 8) (h : p + s ≤ l.length) :
    bits BinOp.or IntKind.u64 (IntKind.u64.wrap ((Oct.num (Oct.cut l (p + k) (s - k)) : Nat) * 256)) (IntKind.u64.wrap ((l[p + (k - 1)]'(by omega)).toNat : Int)) = ((Oct.num (Oct.cut l (p + (k - 1)) (s - (k - 1))) : Nat) : Int) := by
  have hb : (l[p + (k - 1)]'(by omega)).toNat < 256 := by have := (l[p + (k - 1)]'(by omega)).toNat_lt; simpa using this
  have hN := Oct.num_cut_lt l (p + k) (s - k) (by omega)
  have hp : 256 ^ (s - k) ≤ 256 ^ 7 := Nat.pow_le_pow_right (by decide) (by omega)
  rw [or_step _ _ (by omega) hb]
  have e := Oct.num_cut_step l (p + (k - 1)) (s - k) (by omega)
  rw [show s - (k - 1) = s - k + 1 from by omega, e, show p + (k - 1) + 1 = p + k from by omega]

set_option maxHeartbeats 400000 in
theorem next_no (w : World) (a : Option Addr) (n c : Nat) (p s : Nat) (S : Int) (hS : S = (s : Int)) (Ba Bb : Nat) (hs1 : 1 ≤ s) (hs : s ≤ 8) (hn : n ≤ maxLen) (hp : p ≤ maxLen)
    (hat : w.cell? ⟨Ba, 0, none⟩ = some (.int .i64 p)) (hb : w.cell? ⟨Bb, 0, none⟩ = some (.slice a n c)) (h : n < p + s) :
    Calls Try.prog 56 #[.int .i64 S, .pointer (some ⟨Ba, 0, none⟩), .pointer (some ⟨Bb, 0, none⟩)] w fun e w' =>
      e = .returned (.tuple #[.int .u64 0, .bool false]) ∧ w = w' := by
  subst hS
  unfold maxLen at hn hp
  go_enter Try.func56, Try.ntmps56
  go_wp2
  go_ret2
  exact ⟨rfl, rfl⟩

set_option maxHeartbeats 400000 in
theorem next_ok (w : World) (a : Option Addr) (n c : Nat) (l : List UInt8) (p s : Nat) (S : Int) (hS : S = (s : Int)) (Ba Bb : Nat) (hs1 : 1 ≤ s) (hs : s ≤ 8) (hn : n ≤ maxLen) (hB : IsB w a n l)
    (hat : w.cell? ⟨Ba, 0, none⟩ = some (.int .i64 p)) (hfr : w.frozen? ⟨Ba, 0, none⟩ = false) (hb : w.cell? ⟨Bb, 0, none⟩ = some (.slice a n c)) (h : p + s ≤ n) :
    Calls Try.prog 56 #[.int .i64 S, .pointer (some ⟨Ba, 0, none⟩), .pointer (some ⟨Bb, 0, none⟩)] w fun e w' =>
      e = .returned (.tuple #[.int .u64 (Oct.num (Oct.cut l p s) : Nat), .bool true]) ∧ w.setCell ⟨Ba, 0, none⟩ (.int .i64 ((p + s : Nat) : Int)) = w' := by
  subst hS
  unfold maxLen at hn
  obtain ⟨b, off, rfl, hcell⟩ := hB.place (by omega)
  have hlen : l.length = n := hB.1
  clear hB
  go_enter Try.func56, Try.ntmps56
  go_wp2
  go_loop [6, 7] (fun v i => ∃ k : Nat, k ≤ s ∧ i = .int .i64 ((k : Int) - 1) ∧ v = .int .u64 (Oct.num (Oct.cut l (p + k) (s - k)) : Nat))
    (fun _ i => (intOf i + 1).toNat)
  case atStart => exact ⟨s, Nat.le_refl _, rfl, by simp [Oct.cut, Oct.num]⟩
  case round =>
    obtain ⟨k, hk, rfl, rfl⟩ := hrel
    by_cases hlt : 1 ≤ k
    · have hc := hcell (p + (k - 1)) (by omega)
      clear hcell
      go_wp2
      go_round
      case rel => exact ⟨k - 1, by omega, by go_num, by rw [round_num l p s k hk hlt hs (by omega)]⟩
      case measure => simp [intOf]; omega
    · have e : k = 0 := by omega
      subst e
      clear hcell
      go_wp2
      go_ret2
      exact ⟨rfl, rfl⟩

theorem two_new (w w1 : World) (o1 o2 : Obj) (v : Value) (h : ((w.alloc o1).alloc o2).setCell ⟨w.heap.size + 1, 0, none⟩ v = w1) : Below w.heap.size w w1 := by
  subst h
  exact (((Below.refl _ _).alloc (Nat.le_refl _) _).alloc (by simp) _).setCell (by simp) _

theorem put_u (n : Nat) (N S : Int) (hN : N = (n : Int)) (w : World) :
    Calls Try.prog 25 #[.int .u64 N, .int .i64 S] w fun e w' => ∃ a len c, e = .returned (.tuple #[.slice a len c, .int .i64 (Oct.putE n S)]) ∧
      w'.ownsRow w.heap.size 5 1 (.slice a len c) len (cellsOf (Oct.putL n S)) ∧ Below w.heap.size w w' := by
  rcases Oct.putE_cases n S with ⟨h, e1, e2⟩ | ⟨s, rfl, h1, h2, h3, e1, e2⟩ | ⟨s, rfl, h1, h2, h3, e1, e2⟩
  · rw [e1, e2]
    refine (put_arg N S w h).mono ?_
    rintro e w' ⟨rfl, rfl⟩
    exact ⟨none, 0, 0, rfl, own_nil _ _, Below.refl _ _⟩
  · rw [e1, e2]
    refine (put_range n s N _ hN rfl w h1 h2 h3).mono ?_
    rintro e w' ⟨rfl, rfl⟩
    exact ⟨none, 0, 0, rfl, own_nil _ _, Below.refl _ _⟩
  · rw [e1, e2]
    refine (put_ok n s N _ hN rfl w h1 h2 h3).mono ?_
    rintro e w' ⟨rfl, ho, hb⟩
    exact ⟨_, s, s, rfl, ho, hb⟩

set_option maxHeartbeats 400000 in
theorem get_arg (w : World) (a : Option Addr) (n c : Nat) (P S : Int) (h : ¬ (1 ≤ S ∧ S ≤ 8)) :
    Calls Try.prog 44 #[.slice a n c, .int .i64 P, .int .i64 S] w fun e w' => e = .returned (.tuple #[.int .u64 0, .int .i64 1]) ∧ w = w' := by
  have hd : decide (1 ≤ S ∧ S ≤ 8) = false := by simpa using h
  go_enter Try.func44, Try.ntmps44
  go_wp2_with (go_at_call 40; refine (isSize_any _ _).mono ?_; rintro e w' ⟨rfl, rfl⟩)
  go_ret2
  exact ⟨rfl, rfl⟩

set_option maxHeartbeats 400000 in
theorem get_neg (w : World) (a : Option Addr) (n c : Nat) (P S : Int) (h : 1 ≤ S ∧ S ≤ 8) (hp : P < 0) :
    Calls Try.prog 44 #[.slice a n c, .int .i64 P, .int .i64 S] w fun e w' => e = .returned (.tuple #[.int .u64 0, .int .i64 4]) ∧ w = w' := by
  have hd : decide (1 ≤ S ∧ S ≤ 8) = true := by simpa using h
  go_enter Try.func44, Try.ntmps44
  go_wp2_with (go_at_call 40; refine (isSize_any _ _).mono ?_; rintro e w' ⟨rfl, rfl⟩)
  go_ret2
  exact ⟨rfl, rfl⟩

set_option maxHeartbeats 400000 in
theorem get_short (w : World) (a : Option Addr) (n c : Nat) (p s : Nat) (P S : Int) (hP : P = (p : Int)) (hS : S = (s : Int)) (h1 : 1 ≤ s) (h2 : s ≤ 8) (hn : n ≤ maxLen) (hp : p ≤ maxLen) (h : n < p + s) :
    Calls Try.prog 44 #[.slice a n c, .int .i64 P, .int .i64 S] w fun e w' => e = .returned (.tuple #[.int .u64 0, .int .i64 8]) ∧ Below w.heap.size w w' := by
  subst hP
  subst hS
  have hd : decide (1 ≤ (s : Int) ∧ (s : Int) ≤ 8) = true := by simp; omega
  have hn' := hn
  have hp' := hp
  unfold maxLen at hn' hp'
  go_enter Try.func44, Try.ntmps44
  go_wp2_with (first
    | (go_at_call 40; refine (isSize_any _ _).mono ?_; rintro e w' ⟨rfl, rfl⟩)
    | (go_at_call 56; refine (next_no _ a n c p s _ rfl _ _ h1 h2 hn hp (by simp) (by simp) h).mono ?_; rintro e w1 ⟨rfl, rfl⟩)
    | go_in)
  go_ret2
  exact ⟨rfl, ((Below.refl _ _).alloc (Nat.le_refl _) _).alloc (by simp) _⟩

set_option maxHeartbeats 400000 in
theorem get_ok (w : World) (a : Option Addr) (n c : Nat) (l : List UInt8) (p s : Nat) (P S : Int) (hP : P = (p : Int)) (hS : S = (s : Int)) (h1 : 1 ≤ s) (h2 : s ≤ 8) (hn : n ≤ maxLen) (hB : IsB w a n l) (h : p + s ≤ n) :
    Calls Try.prog 44 #[.slice a n c, .int .i64 P, .int .i64 S] w fun e w' => e = .returned (.tuple #[.int .u64 (Oct.num (Oct.cut l p s) : Nat), .int .i64 0]) ∧ Below w.heap.size w w' := by
  subst hP
  subst hS
  have hd : decide (1 ≤ (s : Int) ∧ (s : Int) ≤ 8) = true := by simp; omega
  have hn' := hn
  unfold maxLen at hn'
  go_enter Try.func44, Try.ntmps44
  go_wp2_with (first
    | (go_at_call 40; refine (isSize_any _ _).mono ?_; rintro e w' ⟨rfl, rfl⟩)
    | (go_at_call 56; refine (next_ok _ a n c l p s _ rfl _ _ h1 h2 hn (hB.below (((Below.refl _ _).alloc (Nat.le_refl _) _).alloc (by simp) _)) (by simp) (by simp) (by simp) h).mono ?_; rintro e w1 ⟨rfl, hw1⟩; have hb1 := two_new _ _ _ _ _ hw1; clear hw1)
    | go_in)
  go_ret2
  exact ⟨rfl, hb1⟩

theorem get_u (w : World) (a : Option Addr) (n c : Nat) (l : List UInt8) (P S : Int) (hP : P ≤ 9223372036854775807) (hn : n ≤ maxLen) (hB : IsB w a n l) :
    Calls Try.prog 44 #[.slice a n c, .int .i64 P, .int .i64 S] w fun e w' =>
      e = .returned (.tuple #[.int .u64 (Oct.getV l P S : Nat), .int .i64 (Oct.getE l P S)]) ∧ Below w.heap.size w w' := by
  have hl := hB.1
  rcases Oct.getE_cases l P S with ⟨h, e1, e2⟩ | ⟨h, hp, e1, e2⟩ | ⟨p, s, rfl, rfl, h1, h2, h, e1, e2⟩ | ⟨p, s, rfl, rfl, h1, h2, h, e1, e2⟩
  · rw [e1, e2]
    refine (get_arg w a n c P S h).mono ?_
    rintro e w' ⟨rfl, rfl⟩
    exact ⟨rfl, Below.refl _ _⟩
  · rw [e1, e2]
    refine (get_neg w a n c P S h hp).mono ?_
    rintro e w' ⟨rfl, rfl⟩
    exact ⟨rfl, Below.refl _ _⟩
  · rw [e1, e2]
    refine (get_short w a n c p s _ _ rfl rfl h1 h2 hn (by unfold maxLen; omega) (by omega)).mono ?_
    rintro e w' ⟨rfl, hb⟩
    exact ⟨rfl, hb⟩
  · rw [e1, e2]
    refine (get_ok w a n c l p s _ _ rfl rfl h1 h2 hn hB (by omega)).mono ?_
    rintro e w' ⟨rfl, hb⟩
    exact ⟨rfl, hb⟩

end Go.Proofs.Ytbglgplfjhiafaa
