/-
  The contract of the closure that reads numbers. Conditions: those that each contract names.
-/
import Derived.Test.YtomfplmkbdalhabBase
namespace Go.Proofs.Ytomfplmkbdalhab
open Go.RowKit

theorem IsB.place {w : World} {a : Option Addr} {n : Nat} {l : List UInt8} (h : IsB w a n l) (hn : 0 < n) :
    ∃ b off, a = some ⟨b, off, none⟩ ∧ ∀ j (hj : j < l.length), w.cell? ⟨b, off + j, none⟩ = some (.int .u8 (l[j].toNat : Int)) := by
  obtain ⟨h1, h2, h3⟩ := h
  cases a with
  | none => have := h2 rfl; omega
  | some x =>
    obtain ⟨b, off, spot⟩ := x
    have hc := h3 _ rfl 0 (by omega)
    have hspot : spot = none := by simpa [Addr.add] using World.cell?_spot hc
    subst hspot
    exact ⟨b, off, rfl, fun j hj => by rw [← Addr.add_lit]; exact h3 _ rfl j hj⟩

theorem or_step (N b : Nat) (hN : N < 72057594037927936) (hb : b < 256) :
    bits BinOp.or IntKind.u64 (IntKind.u64.wrap ((N : Int) * 256)) (IntKind.u64.wrap (b : Int)) = ((256 * N + b : Nat) : Int) := by
  have e1 : IntKind.u64.wrap ((N : Int) * 256) = ((N * 256 : Nat) : Int) := by simp [IntKind.wrap, IntKind.bits, IntKind.signed]; omega
  have e2 : IntKind.u64.wrap (b : Int) = (b : Int) := by simp [IntKind.wrap, IntKind.bits, IntKind.signed]; omega
  have e3 := Oct.or_add N b hb
  rw [e1, e2, u64_or_nat _ _ (by omega) (by omega), e3]

theorem round_num (l : List UInt8) (p s k : Nat) (hk : k ≤ s) (h1 : 1 ≤ k) (hs : s ≤ 8) (h : p + s ≤ l.length) :
    bits BinOp.or IntKind.u64 (IntKind.u64.wrap ((Oct.num (Oct.cut l (p + k) (s - k)) : Nat) * 256)) (IntKind.u64.wrap ((l[p + (k - 1)]'(by omega)).toNat : Int)) = ((Oct.num (Oct.cut l (p + (k - 1)) (s - (k - 1))) : Nat) : Int) := by
  have hb : (l[p + (k - 1)]'(by omega)).toNat < 256 := by have := (l[p + (k - 1)]'(by omega)).toNat_lt; simpa using this
  have hN := Oct.num_cut_lt l (p + k) (s - k) (by omega)
  have hp : 256 ^ (s - k) ≤ 256 ^ 7 := Nat.pow_le_pow_right (by decide) (by omega)
  rw [or_step _ _ (by omega) hb]
  have e := Oct.num_cut_step l (p + (k - 1)) (s - k) (by omega)
  rw [show s - (k - 1) = s - k + 1 from by omega, e, show p + (k - 1) + 1 = p + k from by omega]

set_option maxHeartbeats 400000 in
theorem next_no (w : World) (a : Option Addr) (n c : Nat) (p s : Nat) (S : Int) (hS : S = (s : Int)) (Ba Bb : Nat) (hs1 : 1 ≤ s) (hs : s ≤ 8) (hn : n ≤ maxLen) (hp : p ≤ maxLen)
    (hat : w.cell? ⟨Ba, 0, none⟩ = some (.int .i64 p)) (hb : w.cell? ⟨Bb, 0, none⟩ = some (.slice a n c)) (h : n < p + s) :
    Calls Try.prog 13 #[.int .i64 S, .pointer (some ⟨Ba, 0, none⟩), .pointer (some ⟨Bb, 0, none⟩)] w fun e w' =>
      e = .returned (.tuple #[.int .u64 0, .bool false]) ∧ w = w' := by
  subst hS
  unfold maxLen at hn hp
  go_enter Try.func13, Try.ntmps13
  go_wp2
  go_ret2
  exact ⟨rfl, rfl⟩

set_option maxHeartbeats 400000 in
theorem next_ok (w : World) (a : Option Addr) (n c : Nat) (l : List UInt8) (p s : Nat) (S : Int) (hS : S = (s : Int)) (Ba Bb : Nat) (hs1 : 1 ≤ s) (hs : s ≤ 8) (hn : n ≤ maxLen) (hB : IsB w a n l)
    (hat : w.cell? ⟨Ba, 0, none⟩ = some (.int .i64 p)) (hfr : w.frozen? ⟨Ba, 0, none⟩ = false) (hb : w.cell? ⟨Bb, 0, none⟩ = some (.slice a n c)) (h : p + s ≤ n) :
    Calls Try.prog 13 #[.int .i64 S, .pointer (some ⟨Ba, 0, none⟩), .pointer (some ⟨Bb, 0, none⟩)] w fun e w' =>
      e = .returned (.tuple #[.int .u64 (Oct.num (Oct.cut l p s) : Nat), .bool true]) ∧ w.setCell ⟨Ba, 0, none⟩ (.int .i64 ((p + s : Nat) : Int)) = w' := by
  subst hS
  unfold maxLen at hn
  obtain ⟨b, off, rfl, hcell⟩ := hB.place (by omega)
  have hlen : l.length = n := hB.1
  clear hB
  go_enter Try.func13, Try.ntmps13
  go_wp2
  go_loop [6, 7] (fun v i => ∃ k : Nat, k ≤ s ∧ i = .int .i64 ((k : Int) - 1) ∧ v = .int .u64 (Oct.num (Oct.cut l (p + k) (s - k)) : Nat))
    (fun _ i => (intOf i + 1).toNat)
  case atStart => exact ⟨s, Nat.le_refl _, rfl, by simp [Oct.cut, Oct.num]⟩
  case round =>
    obtain ⟨k, hk, rfl, rfl⟩ := hrel
    by_cases hlt : 1 ≤ k
    · have hc := hcell (p + (k - 1)) (by omega)
      clear hcell
      go_wp2
      go_round
      case rel => exact ⟨k - 1, by omega, by go_num, by rw [round_num l p s k hk hlt hs (by omega)]⟩
      case measure => simp [intOf]; omega
    · have e : k = 0 := by omega
      subst e
      clear hcell
      go_wp2
      go_ret2
      exact ⟨rfl, rfl⟩

end Go.Proofs.Ytomfplmkbdalhab
