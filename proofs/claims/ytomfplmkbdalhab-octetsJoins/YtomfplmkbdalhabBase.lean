/-
  The contracts of the smallest functions: the size's test, the error's number, whether octets are one, and Put. Conditions: those that each contract names.
-/
import Derived.Test.YtomfplmkbdalhabRows
import Derived.Test.YtomfplmkbdalhabPlain
import Derived.WalkKit
import Derived.WalkSpells
import Derived.WalkLawsBesides
import Derived.Laws.IdiomStrings
namespace Go.Proofs.Ytomfplmkbdalhab
open Go.RowKit

theorem info_u8 : (Try.prog.info? 5).map (fun i => (i.zero, i.size, i.bytes)) = some (some (.int .u8 0), 1, 1) := by kernel_rfl

/-- A slice of octets reads as l. -/
def IsB (w : World) (a : Option Addr) (n : Nat) (l : List UInt8) : Prop :=
  l.length = n ∧ (a = none → n = 0) ∧ ∀ x, a = some x → ∀ j (h : j < l.length), w.cell? (x.add j) = some (.int .u8 (l[j].toNat : Int))

theorem isSize_any (n : Int) (w : World) :
    Calls Try.prog 11 #[.int .i64 n] w fun e w' => e = .returned (.bool (decide (1 ≤ n ∧ n ≤ 8))) ∧ w = w' := by
  by_cases h1 : 1 ≤ n
  · by_cases h2 : n ≤ 8
    · go_enter Try.func11, Try.ntmps11
      go_wp2
      go_ret
      exact ⟨by simp [h1, h2], rfl⟩
    · go_enter Try.func11, Try.ntmps11
      go_wp2
      go_ret
      exact ⟨by simp [h2], rfl⟩
  · go_enter Try.func11, Try.ntmps11
    go_wp2
    go_ret
    exact ⟨by simp; omega, rfl⟩

theorem num_any (n : Int) (w : World) :
    Calls Try.prog 7 #[.int .i64 n] w fun e w' => e = .returned (.int .i64 n) ∧ w = w' := by
  go_enter Try.func7, Try.ntmps7
  go_wp2
  go_ret
  exact ⟨rfl, rfl⟩

theorem conv_bytes (w : World) (a : Option Addr) (n c : Nat) (l : List UInt8) (h : IsB w a n l) :
    (convert 24 9 (.slice a n c)).run Try.prog w = .ok (.string ⟨l.toArray⟩) w := by
  obtain ⟨rfl, h2, h3⟩ := h
  cases a with
  | none =>
    have : l = [] := List.length_eq_zero_iff.1 (h2 rfl)
    subst this
    rw [List.length_nil, run_convert_bytes_string w 24 9 5 none 0 c Try.underlying24 Try.underlying5 Try.underlying9]
    rfl
  | some x => exact run_convert_bytes_back w 24 9 5 x c l Try.underlying24 Try.underlying5 Try.underlying9 (h3 x rfl)

theorem sameBytes_any (w : World) (a b : Option Addr) (n c m d : Nat) (l k : List UInt8) (ha : IsB w a n l) (hb : IsB w b m k) :
    Calls Try.prog 8 #[.slice a n c, .slice b m d] w fun e w' => e = .returned (.bool (l == k)) ∧ w = w' := by
  have e1 := conv_bytes w a n c l ha
  have e2 := conv_bytes w b m d k hb
  clear ha hb
  go_enter Try.func8, Try.ntmps8
  go_wp2
  go_ret
  exact ⟨rfl, rfl⟩

set_option maxHeartbeats 400000 in
theorem put_arg (n s : Int) (w : World) (h : ¬ (1 ≤ s ∧ s ≤ 8)) :
    Calls Try.prog 6 #[.int .u64 n, .int .i64 s] w fun e w' => e = .returned (.tuple #[.slice none 0 0, .int .i64 1]) ∧ w = w' := by
  have hd : decide (1 ≤ s ∧ s ≤ 8) = false := by simpa using h
  go_enter Try.func6, Try.ntmps6
  go_wp2_with (go_at_call 11; refine (isSize_any _ _).mono ?_; rintro e w' ⟨rfl, rfl⟩)
  go_ret2
  exact ⟨rfl, rfl⟩

/-- Octets as cells. -/
def cellsOf (l : List UInt8) : List Value := l.map fun b => Value.int .u8 (b.toNat : Int)

theorem cellsOf_length (l : List UInt8) : (cellsOf l).length = l.length := by simp [cellsOf]

theorem byte_at (n s k : Nat) (hk : k < s) : Value.int .u8 ((n : Int) / 2 ^ (8 * k) % 256) = (cellsOf (Oct.octs n s))[k]'(by simp [cellsOf, Oct.octs_length, hk]) := by
  simp only [cellsOf, List.getElem_map]
  rw [Oct.octs_get_toNat, show (256 : Nat) = 2 ^ 8 from rfl, ← Nat.pow_mul]
  simp

theorem put_step {w wr : World} {n s k : Nat} (hk : k < s)
    (hown : wr.ownsRow w.heap.size 5 1 (.slice (some ⟨w.heap.size, 0, none⟩) s s) s ((cellsOf (Oct.octs n s)).take k ++ List.replicate (s - k) (.int .u8 0))) :
    (wr.setCell ⟨w.heap.size, k, none⟩ (.int .u8 ((n : Int) / 2 ^ (8 * k) % 256))).ownsRow w.heap.size 5 1 (.slice (some ⟨w.heap.size, 0, none⟩) s s) s ((cellsOf (Oct.octs n s)).take (k + 1) ++ List.replicate (s - (k + 1)) (.int .u8 0)) := by
  have h := (hown.stored k (.int .u8 ((n : Int) / 2 ^ (8 * k) % 256))).1
  rw [byte_at n s k hk] at h ⊢
  rw [Oct.set_step _ _ s k (by simp [cellsOf, Oct.octs_length]) hk] at h
  exact h

theorem shr_zero (n s : Nat) (h : n < 256 ^ s) : ((n : Int) / 2 ^ (8 * s) != 0) = false := by
  have : n / 2 ^ (8 * s) = 0 := by rw [Nat.pow_mul]; exact Nat.div_eq_of_lt h
  have e : (n : Int) / 2 ^ (8 * s) = ((n / 2 ^ (8 * s) : Nat) : Int) := by simp
  rw [e, this]; rfl

theorem shr_pos (n s : Nat) (h : 256 ^ s ≤ n) : ((n : Int) / 2 ^ (8 * s) != 0) = true := by
  have h0 : 0 < n / 2 ^ (8 * s) := by rw [Nat.pow_mul]; exact Nat.div_pos h (Nat.pow_pos (by decide))
  have e : (n : Int) / 2 ^ (8 * s) = ((n / 2 ^ (8 * s) : Nat) : Int) := by simp
  rw [e, bne_iff_ne]; omega

set_option maxHeartbeats 400000 in
theorem put_range (n : Nat) (s : Nat) (N S : Int) (hN : N = (n : Int)) (hS : S = (s : Int)) (w : World) (h1 : 1 ≤ s) (h2 : s ≤ 8) (h : 256 ^ s ≤ n) :
    Calls Try.prog 6 #[.int .u64 N, .int .i64 S] w fun e w' => e = .returned (.tuple #[.slice none 0 0, .int .i64 4]) ∧ w = w' := by
  subst hN
  subst hS
  have hd : decide (1 ≤ (s : Int) ∧ (s : Int) ≤ 8) = true := by simp; omega
  have hs := shr_pos n s h
  clear h
  go_enter Try.func6, Try.ntmps6
  go_wp2_with (go_at_call 11; refine (isSize_any _ _).mono ?_; rintro e w' ⟨rfl, rfl⟩)
  go_ret2
  exact ⟨rfl, rfl⟩

set_option maxHeartbeats 400000 in
theorem put_ok (n : Nat) (s : Nat) (N S : Int) (hN : N = (n : Int)) (hS : S = (s : Int)) (w : World) (h1 : 1 ≤ s) (h2 : s ≤ 8) (h : n < 256 ^ s) :
    Calls Try.prog 6 #[.int .u64 N, .int .i64 S] w fun e w' => e = .returned (.tuple #[.slice (some ⟨w.heap.size, 0, none⟩) s s, .int .i64 0]) ∧
      w'.ownsRow w.heap.size 5 1 (.slice (some ⟨w.heap.size, 0, none⟩) s s) s (cellsOf (Oct.octs n s)) ∧ Below w.heap.size w w' := by
  subst hN
  subst hS
  have hd : decide (1 ≤ (s : Int) ∧ (s : Int) ≤ 8) = true := by simp; omega
  have hs := shr_zero n s h
  have H : Hid (n < 256 ^ s) := h
  clear h
  obtain ⟨i0, hi, hz0, hz1, hz2⟩ := info_parts info_u8
  go_enter Try.func6, Try.ntmps6
  go_wp2_with (first | (go_at_call 11; refine (isSize_any _ _).mono ?_; rintro e w' ⟨rfl, rfl⟩) | (at_make; refine wpList_make_full _ rfl _ _ 24 rfl w.heap.size 5 i0 (.int .u8 0) 1 Try.underlying24 hi hz0 hz1 _ _ _ _ s rfl rfl rfl rfl ?b2 ?b3 (Nat.le_refl _) ?_))
  case b2 => rw [hz2]; omega
  case b3 => unfold maxLen; omega
  intro w0 hown0 hgrow0
  go_wp2
  go_loopw [7, 21] (fun j i wr => ∃ k : Nat, k ≤ s ∧ i = .int .i64 k ∧
      wr.ownsRow w.heap.size 5 1 (.slice (some ⟨w.heap.size, 0, none⟩) s s) s ((cellsOf (Oct.octs n s)).take k ++ List.replicate (s - k) (.int .u8 0)) ∧ Below w.heap.size w wr)
    (fun _ i _ => s - (intOf i).toNat)
  case atStart =>
    refine ⟨0, Nat.zero_le _, rfl, ?_, (Below.refl _ _).grown hgrow0 (Nat.le_refl _) (fun k h => by cases h)⟩
    simpa [Value.cells, toList_madeCells_one] using hown0
  case round =>
    obtain ⟨k, hk, rfl, hown, hbel⟩ := hrel
    by_cases hlt : k < s
    · have hst := put_step hlt hown
      have hc := hown.cellAt k (by omega)
      have hz : ∃ v, wr.cell? ⟨w.heap.size, k, none⟩ = some v := by
        rw [hc]; exact ⟨_, List.getElem?_eq_getElem (by simp [cellsOf, Oct.octs_length]; omega)⟩
      obtain ⟨v, hv⟩ := hz
      have hf := hown.frozenAt k
      clear hc hown hgrow0 hown0
      go_wp2
      go_roundw
      case rel => exact ⟨k + 1, by omega, by go_num, hst, hbel.setCell (Nat.le_refl _) _⟩
      case measure => simp [intOf]; omega
    · have e : k = s := by omega
      subst e
      go_wp2
      go_ret2
      refine ⟨rfl, ?_, hbel⟩
      rw [List.take_of_length_le (by simp [cellsOf, Oct.octs_length])] at hown
      simpa using hown

end Go.Proofs.Ytomfplmkbdalhab
