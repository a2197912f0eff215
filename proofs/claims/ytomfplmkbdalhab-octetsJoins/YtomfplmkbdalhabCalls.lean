/-
  The contracts of Put, Get, Text, Read and of the document's own answers for them, in one form: what is answered is what the plain functions say. Conditions: those that each contract names.
-/
import Derived.Test.YtomfplmkbdalhabAlive
import Derived.Test.YtomfplmkbdalhabSpec
import Derived.Lib.AppendStr
import Derived.Laws.AppendOwnNone
namespace Go.Proofs.Ytomfplmkbdalhab
open Go.RowKit

/-- What is owned is a slice. -/
theorem owns_slice {w : World} {base n : Nat} {v : Value} {l : List UInt8} (h : w.ownsRow base 5 1 v n (cellsOf l)) :
    ∃ a c, v = .slice a n c ∧ n ≤ c ∧ n = l.length ∧ IsB w a n l := by
  have hl : l.length = n := by have := h.1; simpa [cellsOf] using this
  rcases h.2 with ⟨rfl, rfl⟩ | ⟨g, cap, cur, rfl, _, _, hc, _⟩
  · have : l = [] := List.length_eq_zero_iff.1 hl
    subst this
    exact ⟨none, 0, rfl, Nat.le_refl _, rfl, rfl, fun _ => rfl, fun _ e => by cases e⟩
  · exact ⟨_, _, rfl, hc, hl.symm, isB_of_owns h⟩

theorem own_nil (w : World) (base : Nat) : w.ownsRow base 5 1 (.slice none 0 0) 0 (cellsOf []) := World.ownsRow_nil w base 5 1

theorem put_u (n : Nat) (N S : Int) (hN : N = (n : Int)) (w : World) :
    Calls Try.prog 6 #[.int .u64 N, .int .i64 S] w fun e w' => ∃ a len c, e = .returned (.tuple #[.slice a len c, .int .i64 (Oct.putE n S)]) ∧
      w'.ownsRow w.heap.size 5 1 (.slice a len c) len (cellsOf (Oct.putL n S)) ∧ Below w.heap.size w w' := by
  rcases Oct.putE_cases n S with ⟨h, e1, e2⟩ | ⟨s, rfl, h1, h2, h3, e1, e2⟩ | ⟨s, rfl, h1, h2, h3, e1, e2⟩
  · rw [e1, e2]
    refine (put_arg N S w h).mono ?_
    rintro e w' ⟨rfl, rfl⟩
    exact ⟨none, 0, 0, rfl, own_nil _ _, Below.refl _ _⟩
  · rw [e1, e2]
    refine (put_range n s N _ hN rfl w h1 h2 h3).mono ?_
    rintro e w' ⟨rfl, rfl⟩
    exact ⟨none, 0, 0, rfl, own_nil _ _, Below.refl _ _⟩
  · rw [e1, e2]
    refine (put_ok n s N _ hN rfl w h1 h2 h3).mono ?_
    rintro e w' ⟨rfl, ho, hb⟩
    exact ⟨_, s, s, rfl, ho, hb⟩

theorem read_u (w : World) (a : Option Addr) (n c : Nat) (l : List UInt8) (P : Int) (hP : P ≤ 9223372036854775807) (hn : n ≤ maxLen) (hc : n ≤ c) (hB : IsB w a n l) :
    Calls Try.prog 10 #[.slice a n c, .int .i64 P] w fun e w' =>
      e = .returned (.tuple #[.string ⟨(Oct.readS l P).toArray⟩, .int .i64 (Oct.readN l P : Nat), .int .i64 (Oct.readE l P)]) ∧ Below w.heap.size w w' := by
  have hl := hB.1
  rcases Oct.readE_cases l P with ⟨h, e1, e2, e3⟩ | ⟨p, rfl, h, e1, e2, e3⟩ | ⟨p, rfl, h1, h, e1, e2, e3⟩ | ⟨p, rfl, h1, h, e1, e2, e3⟩
  · rw [e1, e2, e3]
    refine (read_neg w a n c P h).mono ?_
    rintro e w' ⟨rfl, rfl⟩
    exact ⟨rfl, Below.refl _ _⟩
  · rw [e1, e2, e3]
    refine (read_end w a n c p _ rfl (by unfold maxLen; omega) hn (by omega)).mono ?_
    rintro e w' ⟨rfl, hb⟩
    exact ⟨rfl, hb⟩
  · rw [e1, e2, e3]
    refine (read_short w a n c l p _ rfl hn hB (by omega) (by omega)).mono ?_
    rintro e w' ⟨rfl, hb⟩
    exact ⟨rfl, hb⟩
  · rw [e1, e2, e3]
    refine (read_ok w a n c l p _ rfl hn hc hB (by omega) (by omega)).mono ?_
    rintro e w' ⟨rfl, hb⟩
    exact ⟨rfl, hb⟩

end Go.Proofs.Ytomfplmkbdalhab
